/- Mathematics of the reference's search for the fewest boxes: the box of the first thing, with each set of the others. No program is named here. -/
import Derived.Test.YtfnkboegbclnaaaKrt
namespace Go.Proofs.Ytfnkboegbclnaaa
open Go.RowKit
set_option linter.unusedSectionVars false
set_option linter.unusedVariables false

def ba (p : Nat → Bool) : Nat → Nat
  | 0 => 0
  | n + 1 => ba p n + (if p n then 2 ^ n else 0)
theorem ba_lt (p : Nat → Bool) (n : Nat) : ba p n < 2 ^ n := by
  induction n with
  | zero => exact Nat.zero_lt_one
  | succ n ih => rw [ba, Nat.pow_succ]; split <;> omega
theorem ba_bit (p : Nat → Bool) (n j : Nat) : (ba p n).testBit j = (decide (j < n) && p j) := by
  induction n with
  | zero => simp [ba]
  | succ n ih =>
    rw [ba]
    cases hp : p n with
    | false =>
      rw [if_neg (by decide), Nat.add_zero, ih]
      by_cases e : j = n
      · subst e; rw [hp]; simp
      · congr 1; rw [decide_eq_decide]; omega
    | true =>
      rw [if_pos rfl, Nat.add_comm]
      by_cases e : j = n
      · subst e
        rw [Nat.testBit_two_pow_add_eq, ih, hp]
        simp
      · by_cases h2 : j < n
        · rw [Nat.testBit_two_pow_add_gt h2, ih]; simp [h2, Nat.lt_succ_of_lt h2]
        · rw [Nat.testBit_lt_two_pow]
          · simp; omega
          · have h3 : 2 ^ (n + 1) ≤ 2 ^ j := Nat.pow_le_pow_right (by omega) (by omega)
            have h4 := ba_lt p n
            rw [Nat.pow_succ] at h3
            omega

/-- The things of a row that are in a set. -/
def selL : (Nat → Bool) → List Int → List Int
  | _, [] => []
  | p, x :: t => if p 0 = true then x :: selL (fun i => p (i + 1)) t else selL (fun i => p (i + 1)) t
theorem selL_yes {p : Nat → Bool} {x : Int} {t : List Int} (h : p 0 = true) : selL p (x :: t) = x :: selL (fun i => p (i + 1)) t := by rw [selL, if_pos h]
theorem selL_no {p : Nat → Bool} {x : Int} {t : List Int} (h : p 0 = false) : selL p (x :: t) = selL (fun i => p (i + 1)) t := by rw [selL, if_neg (by rw [h]; decide)]
theorem selL_len : ∀ (t : List Int) (p : Nat → Bool), (selL p t).length ≤ t.length := by
  intro t
  induction t with
  | nil => intro p; exact Nat.le_refl _
  | cons x t ih =>
    intro p
    rw [selL]
    have := ih fun i => p (i + 1)
    split
    · simp only [List.length_cons]; omega
    · simp only [List.length_cons]; omega
theorem selL_mem : ∀ (t : List Int) (p : Nat → Bool) (x : Int), x ∈ selL p t → x ∈ t := by
  intro t
  induction t with
  | nil => intro p x h; exact h
  | cons y t ih =>
    intro p x h
    rw [selL] at h
    split at h
    · rcases List.mem_cons.1 h with e | h
      · rw [e]; exact List.mem_cons_self ..
      · exact List.mem_cons_of_mem _ (ih _ x h)
    · exact List.mem_cons_of_mem _ (ih _ x h)
theorem selL_snoc : ∀ (t : List Int) (p : Nat → Bool) (y : Int), selL p (t ++ [y]) = selL p t ++ (if p t.length = true then [y] else []) := by
  intro t
  induction t with
  | nil => intro p y; simp [selL]
  | cons x t ih =>
    intro p y
    rw [List.cons_append, selL, selL, ih]
    split <;> simp
theorem selL_take {p : Nat → Bool} {l : List Int} {j : Nat} (hj : j < l.length) : selL p (l.take (j + 1)) = selL p (l.take j) ++ (if p j = true then [nm l j] else []) := by
  rw [take_nm hj, selL_snoc, List.length_take, Nat.min_eq_left (by omega)]
theorem selL_congr : ∀ (t : List Int) {p q : Nat → Bool}, (∀ i, i < t.length → p i = q i) → selL p t = selL q t := by
  intro t
  induction t with
  | nil => intro p q _; rfl
  | cons x t ih =>
    intro p q h
    rw [selL, selL, h 0 (by simp), ih fun i hi => h (i + 1) (by simp; exact hi)]
/-- What box b holds, where thing i is in box f i. -/
def ldB : (Nat → Nat) → List Int → Nat → Int
  | _, [], _ => 0
  | f, x :: t, b => (if f 0 = b then x else 0) + ldB (fun i => f (i + 1)) t b
def WayB (size : Int) (l : List Int) (K : Nat) : Prop := ∃ f : Nat → Nat, (∀ i, i < l.length → f i < K) ∧ ∀ b, b < K → ldB f l b ≤ size
/-- K is the fewest boxes. -/
structure FewB (size : Int) (l : List Int) (K : Nat) : Prop where
  way : WayB size l K
  few : ∀ K', WayB size l K' → K ≤ K'
theorem FewB.nil (size : Int) : FewB size [] 0 := ⟨⟨fun _ => 0, fun i hi => absurd hi (by simp), fun b hb => absurd hb (Nat.not_lt_zero _)⟩, fun _ _ => Nat.zero_le _⟩
theorem ldB_sumF : ∀ (l : List Int) (f : Nat → Nat) (b : Nat), ldB f l b = sumF (fun i => if f i = b then nm l i else 0) l.length := by
  have first : ∀ (E : Nat → Int) (n : Nat), sumF E (n + 1) = E 0 + sumF (fun i => E (i + 1)) n := by
    intro E n
    induction n with
    | zero => simp [sumF]
    | succ n ih => rw [sumF, ih, sumF]; omega
  intro l
  induction l with
  | nil => intro f b; rfl
  | cons x t ih =>
    intro f b
    rw [ldB, ih, List.length_cons, first]
    rfl
/-- Each thing in a box of its own. -/
theorem way_all {size : Int} {l : List Int} (h0 : 0 ≤ size) (hl : ∀ x ∈ l, x ≤ size) : WayB size l l.length := by
  refine ⟨fun i => i, fun i hi => hi, fun b hb => ?_⟩
  rw [ldB_sumF]
  have e : sumF (fun i => if i = b then nm l i else 0) l.length = nm l b := by
    have key : ∀ m, sumF (fun i => if i = b then nm l i else 0) m = if b < m then nm l b else 0 := by
      intro m
      induction m with
      | zero => rfl
      | succ m ih =>
        rw [sumF, ih]
        by_cases h1 : b < m
        · rw [if_pos h1, if_neg (by omega), if_pos (by omega)]; omega
        · by_cases h2 : m = b
          · rw [if_neg h1, if_pos h2, if_pos (by omega), h2]; omega
          · rw [if_neg h1, if_neg h2, if_neg (by omega)]; omega
    rw [key, if_pos hb]
  rw [e]
  exact hl _ (nm_mem hb)
theorem way_join : ∀ (t : List Int) (p : Nat → Bool) (g : Nat → Nat) (r : Nat), (∀ i, i < (selL (fun i => !p i) t).length → g i < r) → ∃ f : Nat → Nat, (∀ i, i < t.length → f i ≤ r) ∧ ldB f t r = sumR (selL p t) ∧ ∀ b, b < r → ldB f t b = ldB g (selL (fun i => !p i) t) b := by
  intro t
  induction t with
  | nil => intro p g r _; exact ⟨fun _ => 0, fun i hi => absurd hi (by simp), rfl, fun b _ => rfl⟩
  | cons x t ih =>
    intro p g r hg
    cases hp : p 0 with
    | true =>
      have hn : (fun i => !p i) 0 = false := by simp [hp]
      rw [selL_no hn] at hg
      rw [selL_yes hp, selL_no hn]
      obtain ⟨f, h1, h2, h3⟩ := ih (fun i => p (i + 1)) g r hg
      refine ⟨fun i => if i = 0 then r else f (i - 1), fun i hi => ?_, ?_, fun b hb => ?_⟩
      · show (if i = 0 then r else f (i - 1)) ≤ r
        split
        · exact Nat.le_refl _
        · exact h1 _ (by simp at hi; omega)
      · show (if r = r then x else 0) + ldB f t r = x + _
        rw [if_pos rfl, h2]
      · show (if r = b then x else 0) + ldB f t b = _
        rw [if_neg (by omega), h3 b hb]; omega
    | false =>
      have hn : (fun i => !p i) 0 = true := by simp [hp]
      rw [selL_yes hn] at hg
      rw [selL_no hp, selL_yes hn]
      obtain ⟨f, h1, h2, h3⟩ := ih (fun i => p (i + 1)) (fun i => g (i + 1)) r fun i hi => hg (i + 1) (by simp; exact hi)
      refine ⟨fun i => if i = 0 then g 0 else f (i - 1), fun i hi => ?_, ?_, fun b hb => ?_⟩
      · show (if i = 0 then g 0 else f (i - 1)) ≤ r
        split
        · exact Nat.le_of_lt (hg 0 (by simp))
        · exact h1 _ (by simp at hi; omega)
      · show (if g 0 = r then x else 0) + ldB f t r = _
        rw [if_neg (by have := hg 0 (by simp); omega), h2]; omega
      · show (if g 0 = b then x else 0) + ldB f t b = (if g 0 = b then x else 0) + _
        rw [h3 b hb]
theorem way_part : ∀ (t : List Int) (f : Nat → Nat) (K b0 : Nat), (∀ i, i < t.length → f i < K) → sumR (selL (fun i => decide (f i = b0)) t) = ldB f t b0 ∧ ∃ g : Nat → Nat, (∀ i, i < (selL (fun i => !decide (f i = b0)) t).length → g i < K ∧ g i ≠ b0) ∧ ∀ b, b ≠ b0 → ldB g (selL (fun i => !decide (f i = b0)) t) b = ldB f t b := by
  intro t
  induction t with
  | nil => intro f K b0 _; exact ⟨rfl, fun _ => 0, fun i hi => absurd hi (by simp [selL]), fun b _ => rfl⟩
  | cons x t ih =>
    intro f K b0 hf
    obtain ⟨h0, g, h1, h2⟩ := ih (fun i => f (i + 1)) K b0 fun i hi => hf (i + 1) (by simp; exact hi)
    by_cases e : f 0 = b0
    · have e1 : (fun i => decide (f i = b0)) 0 = true := decide_eq_true e
      have e2 : (fun i => !decide (f i = b0)) 0 = false := by simp [e]
      rw [selL_yes e1, selL_no e2, ldB, if_pos e]
      refine ⟨by rw [sumR, h0], g, h1, fun b hb => ?_⟩
      show _ = (if f 0 = b then x else 0) + _
      rw [if_neg (fun z => hb (by rw [← z, e]))]
      have := h2 b hb
      omega
    · have e1 : (fun i => decide (f i = b0)) 0 = false := decide_eq_false e
      have e2 : (fun i => !decide (f i = b0)) 0 = true := by simp [e]
      rw [selL_no e1, selL_yes e2, ldB, if_neg e]
      refine ⟨by rw [h0]; omega, fun i => if i = 0 then f 0 else g (i - 1), fun i hi => ?_, fun b hb => ?_⟩
      · show (if i = 0 then f 0 else g (i - 1)) < K ∧ (if i = 0 then f 0 else g (i - 1)) ≠ b0
        by_cases ei : i = 0
        · rw [if_pos ei]; exact ⟨hf 0 (by simp), e⟩
        · rw [if_neg ei]; exact h1 (i - 1) (by simp at hi; omega)
      · show (if f 0 = b then x else 0) + ldB g (selL (fun i => !decide (f (i + 1) = b0)) t) b = (if f 0 = b then x else 0) + _
        rw [h2 b hb]
def swB (a b x : Nat) : Nat := if x = a then b else if x = b then a else x
theorem swB_eq {a b x y : Nat} : swB a b x = y ↔ x = swB a b y := by
  unfold swB
  by_cases h0 : a = b
  · subst h0
    by_cases h1 : x = a <;> by_cases h3 : y = a <;> simp_all
  · by_cases h1 : x = a <;> by_cases h2 : x = b <;> by_cases h3 : y = a <;> by_cases h4 : y = b <;> simp_all <;> omega
theorem ldB_sw : ∀ (l : List Int) (g : Nat → Nat) (a b c : Nat), ldB (fun i => swB a b (g i)) l c = ldB g l (swB a b c) := by
  intro l
  induction l with
  | nil => intro g a b c; rfl
  | cons x t ih =>
    intro g a b c
    rw [ldB, ldB, ih (fun i => g (i + 1))]
    congr 1
    by_cases h : swB a b (g 0) = c
    · rw [if_pos h, if_pos (swB_eq.1 h)]
    · rw [if_neg h, if_neg (fun z => h (swB_eq.2 z))]
/-- What has come of the first s sets of the others. -/
structure FewI (size : Int) (x : Int) (t : List Int) (s : Nat) (best : Nat) : Prop where
  way : WayB size (x :: t) best
  few : ∀ u, u < s → ∀ r, x + sumR (selL u.testBit t) ≤ size → FewB size (selL (fun i => !u.testBit i) t) r → best ≤ r + 1
theorem FewI.skip {size x : Int} {t : List Int} {s best : Nat} (h : FewI size x t s best) (hs : ¬ x + sumR (selL s.testBit t) ≤ size) : FewI size x t (s + 1) best :=
  ⟨h.way, fun u hu r hr hf => by
    by_cases e : u = s
    · subst e; exact absurd hr hs
    · exact h.few u (by omega) r hr hf⟩
theorem FewB.uniq {size : Int} {l : List Int} {a b : Nat} (h : FewB size l a) (h' : FewB size l b) : a = b := by
  have := h.few _ h'.way
  have := h'.few _ h.way
  omega
theorem FewI.step {size x : Int} {t : List Int} {s best r : Nat} (h : FewI size x t s best) (hs : x + sumR (selL s.testBit t) ≤ size) (hr : FewB size (selL (fun i => !s.testBit i) t) r) : FewI size x t (s + 1) (min best (r + 1)) := by
  refine ⟨?_, fun u hu r' hr' hf => ?_⟩
  · by_cases e : best ≤ r + 1
    · rw [Nat.min_eq_left e]; exact h.way
    · rw [Nat.min_eq_right (by omega)]
      obtain ⟨g, hg, hv⟩ := hr.way
      obtain ⟨f, h1, h2, h3⟩ := way_join t s.testBit g r hg
      refine ⟨fun i => if i = 0 then r else f (i - 1), fun i hi => ?_, fun b hb => ?_⟩
      · show (if i = 0 then r else f (i - 1)) < r + 1
        split
        · omega
        · have := h1 (i - 1) (by simp at hi; omega); omega
      · show (if r = b then x else 0) + ldB f t b ≤ size
        by_cases e2 : r = b
        · subst e2; rw [if_pos rfl, h2]; exact hs
        · rw [if_neg e2, h3 b (by omega)]
          have := hv b (by omega)
          omega
  · by_cases e : u = s
    · subst e
      rw [hf.uniq hr]
      exact Nat.min_le_right _ _
    · exact Nat.le_trans (Nat.min_le_left _ _) (h.few u (by omega) r' hr' hf)
theorem FewI.done {size x : Int} {t : List Int} {best : Nat} (hall : ∀ u, u < 2 ^ t.length → ∃ r, FewB size (selL (fun i => !u.testBit i) t) r) (h : FewI size x t (2 ^ t.length) best) : FewB size (x :: t) best := by
  refine ⟨h.way, fun K hK => ?_⟩
  obtain ⟨f, hf, hv⟩ := hK
  have hK0 : f 0 < K := hf 0 (by simp)
  obtain ⟨p0, g, hg, hgl⟩ := way_part t (fun i => f (i + 1)) K (f 0) fun i hi => hf (i + 1) (by simp; exact hi)
  obtain ⟨u, hu⟩ : ∃ u, u = ba (fun i => decide (f (i + 1) = f 0)) t.length := ⟨_, rfl⟩
  have hbit : ∀ i, i < t.length → u.testBit i = decide (f (i + 1) = f 0) := fun i hi => by rw [hu, ba_bit]; simp [hi]
  have e1 : selL u.testBit t = selL (fun i => decide (f (i + 1) = f 0)) t := selL_congr t hbit
  have e2 : selL (fun i => !u.testBit i) t = selL (fun i => !decide (f (i + 1) = f 0)) t := selL_congr t fun i hi => by rw [hbit i hi]
  obtain ⟨r, hr⟩ := hall u (by rw [hu]; exact ba_lt _ _)
  have hle := h.few u (by rw [hu]; exact ba_lt _ _) r (by
    rw [e1, p0]
    have := hv (f 0) hK0
    rw [ldB, if_pos rfl] at this
    exact this) hr
  rw [e2] at hr
  have h9 : WayB size (selL (fun i => !decide (f (i + 1) = f 0)) t) (K - 1) := by
    refine ⟨fun i => swB (f 0) (K - 1) (g i), fun i hi => ?_, fun b hb => ?_⟩
    · obtain ⟨a1, a2⟩ := hg i hi
      show swB (f 0) (K - 1) (g i) < K - 1
      unfold swB
      rw [if_neg a2]
      split
      · omega
      · omega
    · rw [ldB_sw]
      have hne : swB (f 0) (K - 1) b ≠ f 0 := fun z => by
        have := swB_eq.1 z
        unfold swB at this
        rw [if_pos rfl] at this
        omega
      have hlt : swB (f 0) (K - 1) b < K := by
        unfold swB
        split
        · omega
        · split <;> omega
      rw [hgl _ hne]
      have := hv _ hlt
      rw [ldB, if_neg (fun z => hne z.symm)] at this
      omega
  have := hr.few _ h9
  omega
theorem FewI.start {size x : Int} {t : List Int} (h0 : 0 ≤ size) (hl : ∀ y ∈ x :: t, y ≤ size) : FewI size x t 0 (x :: t).length := ⟨way_all h0 hl, fun u hu => absurd hu (Nat.not_lt_zero _)⟩
end Go.Proofs.Ytfnkboegbclnaaa
