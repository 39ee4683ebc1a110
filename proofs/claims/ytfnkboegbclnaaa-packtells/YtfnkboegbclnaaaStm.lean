/- Mathematics of the library's stable sort: rows of which one is another's by turning places; rotating; merging in place. Plain. -/
import Derived.Sort.LotA
import Derived.Sort.WalkA
namespace Go.Proofs.Ytfnkboegbclnaaa.Stm
open Go.Sort
set_option linter.unusedSectionVars false
set_option linter.unusedVariables false
variable {α : Type} [Inhabited α]

/-- One row is another one by places. -/
structure Ix (d d' : Array α) (f : Nat → Nat) : Prop where
  size : d'.size = d.size
  at_ : ∀ k, d'[k]! = d[f k]!
theorem Ix.refl (d : Array α) : Ix d d (fun k => k) := ⟨rfl, fun _ => rfl⟩
theorem Ix.trans {d d' d2 : Array α} {f g : Nat → Nat} (h : Ix d d' f) (k : Ix d' d2 g) : Ix d d2 (fun i => f (g i)) := ⟨k.size.trans h.size, fun i => (k.at_ i).trans (h.at_ _)⟩
theorem Ix.congr {d d' : Array α} {f g : Nat → Nat} (h : Ix d d' f) (e : ∀ k, f k = g k) : Ix d d' g := ⟨h.size, fun k => by rw [h.at_, e]⟩
def swI (a b n k : Nat) : Nat := if a ≤ k ∧ k < a + n then k - a + b else if b ≤ k ∧ k < b + n then k - b + a else k
def rotI (a m b k : Nat) : Nat := if k < a then k else if k < a + (b - m) then k + (m - a) else if k < b then k - (b - m) else k
theorem Ix.swp {d : Array α} {i j : Nat} (hi : i < d.size) (hj : j < d.size) : Ix d (swp d i j) (fun k => if k = j then i else if k = i then j else k) :=
  ⟨swp_size _ _ _, fun k => by rw [swp_get d hi hj]; repeat' split
                               all_goals rfl⟩
theorem swI_zero (a b k : Nat) : swI a b 0 k = k := by
  unfold swI
  repeat' split
  all_goals omega
theorem swI_step {a b i n k : Nat} (hn : i < n) (hab : a + n ≤ b) : swI a b i (if k = b + i then a + i else if k = a + i then b + i else k) = swI a b (i + 1) k := by
  unfold swI
  repeat' split
  all_goals omega
theorem rot_gt {m i j k : Nat} (h : j < i) (hi : i ≤ m) : swI (m - i) m j (rotI (m - (i - j)) m (m + j) k) = rotI (m - i) m (m + j) k := by
  unfold swI rotI
  repeat' split
  all_goals omega
theorem rot_lt {m i j k : Nat} (h : i < j) (hi : i ≤ m) : swI (m - i) (m + j - i) i (rotI (m - i) m (m + (j - i)) k) = rotI (m - i) m (m + j) k := by
  unfold swI rotI
  repeat' split
  all_goals omega
theorem rot_eq {m i k : Nat} (hi : i ≤ m) : swI (m - i) m i k = rotI (m - i) m (m + i) k := by
  unfold swI rotI
  repeat' split
  all_goals omega

/-- .. by places that are turned between lo and hi alone. -/
def Pmt (lo hi : Nat) (d d' : Array α) : Prop := ∃ f g : Nat → Nat, Ix d d' f ∧ (∀ k, g (f k) = k) ∧ (∀ k, f (g k) = k) ∧ ∀ k, (k < lo ∨ hi ≤ k) → f k = k
theorem Pmt.refl (lo hi : Nat) (d : Array α) : Pmt lo hi d d := ⟨_, fun k => k, Ix.refl d, fun _ => rfl, fun _ => rfl, fun _ _ => rfl⟩
theorem Pmt.trans {lo hi : Nat} {d d' d2 : Array α} (h : Pmt lo hi d d') (k : Pmt lo hi d' d2) : Pmt lo hi d d2 := by
  obtain ⟨f, g, h1, h2, h3, h4⟩ := h
  obtain ⟨f', g', k1, k2, k3, k4⟩ := k
  exact ⟨_, fun i => g' (g i), h1.trans k1, fun i => by show g' (g (f (f' i))) = i; rw [h2, k2], fun i => by show f (f' (g' (g i))) = i; rw [k3, h3], fun i hi => by show f (f' i) = i; rw [k4 i hi, h4 i hi]⟩
theorem Pmt.wide {lo hi lo' hi' : Nat} {d d' : Array α} (h : Pmt lo hi d d') (hl : lo' ≤ lo) (hh : hi ≤ hi') : Pmt lo' hi' d d' := by
  obtain ⟨f, g, h1, h2, h3, h4⟩ := h
  exact ⟨f, g, h1, h2, h3, fun k hk => h4 k (by omega)⟩
theorem Pmt.swp {d : Array α} {lo hi' i j : Nat} (hi : i < d.size) (hj : j < d.size) (h1 : lo ≤ i) (h2 : lo ≤ j) (h3 : i < hi') (h4 : j < hi') : Pmt lo hi' d (swp d i j) := by
  refine ⟨_, fun k => if k = j then i else if k = i then j else k, Ix.swp hi hj, fun k => ?_, fun k => ?_, fun k hk => ?_⟩
  · try dsimp only
    repeat' split
    all_goals omega
  · try dsimp only
    repeat' split
    all_goals omega
  · try dsimp only
    repeat' split
    all_goals omega
theorem Pmt.rot {d d' : Array α} {a m b : Nat} (h : Ix d d' (rotI a m b)) (ham : a ≤ m) (hmb : m ≤ b) : Pmt a b d d' := by
  refine ⟨_, rotI a (a + (b - m)) b, h, fun k => ?_, fun k => ?_, fun k hk => ?_⟩
  · unfold rotI; repeat' split
    all_goals omega
  · unfold rotI; repeat' split
    all_goals omega
  · unfold rotI; repeat' split
    all_goals omega
theorem Pmt.size {lo hi : Nat} {d d' : Array α} (h : Pmt lo hi d d') : d'.size = d.size := h.choose_spec.choose_spec.1.size
theorem Pmt.outside {lo hi : Nat} {d d' : Array α} (h : Pmt lo hi d d') {k : Nat} (hk : k < lo ∨ hi ≤ k) : d'[k]! = d[k]! := by
  obtain ⟨f, g, h1, h2, h3, h4⟩ := h
  rw [h1.at_, h4 k hk]
/-- What lies within lay within. -/
theorem inj_in {lo hi : Nat} {f g : Nat → Nat} (h2 : ∀ k, g (f k) = k) (h4 : ∀ k, (k < lo ∨ hi ≤ k) → f k = k) {k : Nat} (h : lo ≤ k ∧ k < hi) : lo ≤ f k ∧ f k < hi := by
  by_cases e : f k < lo ∨ hi ≤ f k
  · have h5 := h4 _ e
    have h6 : g (f (f k)) = g (f k) := by rw [h5]
    rw [h2, h2] at h6
    omega
  · omega
theorem Pmt.within {lo hi : Nat} {d d' : Array α} (h : Pmt lo hi d d') {k : Nat} (hk : lo ≤ k ∧ k < hi) : ∃ j, lo ≤ j ∧ j < hi ∧ d'[k]! = d[j]! := by
  obtain ⟨f, g, h1, h2, h3, h4⟩ := h
  exact ⟨f k, (inj_in h2 h4 hk).1, (inj_in h2 h4 hk).2, h1.at_ k⟩

/-- A strict order of all that comes, of which the row's own test tells what it tells where the one stands behind the other. -/
structure Ord (lt : α → α → Bool) (T : α → α → Prop) : Prop where
  tr : ∀ x y z, T x y → T y z → T x z
  as_ : ∀ x y, T x y → T y x → False
  ltas : ∀ x y, lt x y = true → lt y x = true → False
structure Stb (lt : α → α → Bool) (T : α → α → Prop) (d : Array α) : Prop where
  iff : ∀ p q, p < q → q < d.size → (lt d[q]! d[p]! = true ↔ T d[q]! d[p]!)
  tot : ∀ p q, p < q → q < d.size → T d[p]! d[q]! ∨ T d[q]! d[p]!
def Srt (T : α → α → Prop) (lo hi : Nat) (d : Array α) : Prop := ∀ p q, lo ≤ p → p < q → q < hi → T d[p]! d[q]!
variable {lt : α → α → Bool} {T : α → α → Prop}
theorem Stb.no {d : Array α} (h : Stb lt T d) (hO : Ord lt T) {p q : Nat} (hpq : p < q) (hq : q < d.size) (hl : lt d[q]! d[p]! = false) : T d[p]! d[q]! := by
  rcases h.tot p q hpq hq with h1 | h1
  · exact h1
  · rw [(h.iff p q hpq hq).2 h1] at hl; cases hl
theorem Stb.yes {d : Array α} (h : Stb lt T d) {p q : Nat} (hpq : p < q) (hq : q < d.size) (hl : lt d[q]! d[p]! = true) : T d[q]! d[p]! := (h.iff p q hpq hq).1 hl
theorem Stb.moved {d d' : Array α} (h : Stb lt T d) (hO : Ord lt T) {lo hi : Nat} {f g : Nat → Nat} (h1 : Ix d d' f) (h2 : ∀ k, g (f k) = k) (h4 : ∀ k, (k < lo ∨ hi ≤ k) → f k = k) (hh : hi ≤ d.size)
    (hT : ∀ p q, p < q → q < d.size → f q < f p → T d'[p]! d'[q]!) : Stb lt T d' := by
  have hlt : ∀ k, k < d.size → f k < d.size := fun k hk => by
    by_cases e : lo ≤ k ∧ k < hi
    · have := inj_in h2 h4 e; omega
    · rw [h4 k (by omega)]; exact hk
  have hne : ∀ p q, p ≠ q → f p ≠ f q := fun p q hpq e => hpq (by rw [← h2 p, e, h2])
  refine ⟨fun p q hpq hq => ?_, fun p q hpq hq => ?_⟩
  · rw [h1.size] at hq
    rcases Nat.lt_or_gt_of_ne (hne p q (by omega)) with e | e
    · rw [h1.at_, h1.at_]; exact h.iff _ _ e (hlt q hq)
    · have ht := hT p q hpq hq e
      have hl : lt d'[p]! d'[q]! = true := by
        rw [h1.at_ p, h1.at_ q] at ht ⊢
        exact (h.iff _ _ e (hlt p (by omega))).2 ht
      exact ⟨fun hx => (hO.ltas _ _ hl hx).elim, fun hx => (hO.as_ _ _ ht hx).elim⟩
  · rw [h1.size] at hq
    rw [h1.at_, h1.at_]
    rcases Nat.lt_or_gt_of_ne (hne p q (by omega)) with e | e
    · exact h.tot _ _ e (hlt q hq)
    · exact (h.tot _ _ e (hlt p (by omega))).symm
/-- Where all that was turned stands in order, it is still so. -/
theorem Stb.sorted {d d' : Array α} (h : Stb lt T d) (hO : Ord lt T) {lo hi : Nat} (hp : Pmt lo hi d d') (hh : hi ≤ d.size) (hs : Srt T lo hi d') : Stb lt T d' := by
  obtain ⟨f, g, h1, h2, h3, h4⟩ := hp
  refine h.moved hO h1 h2 h4 hh fun p q hpq hq hf => ?_
  by_cases e : lo ≤ p ∧ q < hi
  · exact hs p q e.1 hpq e.2
  · exfalso
    by_cases e1 : lo ≤ p ∧ p < hi
    · have := inj_in h2 h4 e1
      have := h4 q (by omega)
      omega
    · have := h4 p (by omega)
      by_cases e2 : lo ≤ q ∧ q < hi
      · have := inj_in h2 h4 e2; omega
      · have := h4 q (by omega); omega
/-- Two neighbours that stood the wrong way change places. -/
theorem Stb.swap {d : Array α} (h : Stb lt T d) (hO : Ord lt T) {i j : Nat} (hij : j = i + 1) (hj : j < d.size) (hT : T d[j]! d[i]!) : Stb lt T (Go.Sort.swp d j i) := by
  have hi : i < d.size := by omega
  refine h.moved (lo := i) (hi := j + 1) hO (Ix.swp hj hi) (g := fun k => if k = i then j else if k = j then i else k) (fun k => ?_) (fun k hk => ?_) (by omega) fun p q hpq hq hf => ?_
  · try dsimp only
    repeat' split
    all_goals omega
  · try dsimp only
    repeat' split
    all_goals omega
  · have e : p = i ∧ q = j := by
      revert hf
      try dsimp only
      repeat' split
      all_goals omega
    rw [e.1, e.2, swp_get d hj hi, swp_get d hj hi, if_pos rfl, if_neg (by omega), if_pos rfl]
    exact hT
theorem Stb.swap' {d : Array α} (h : Stb lt T d) (hO : Ord lt T) {i j : Nat} (hij : j = i + 1) (hj : j < d.size) (hT : T d[j]! d[i]!) : Stb lt T (Go.Sort.swp d i j) := by
  have e : Go.Sort.swp d i j = Go.Sort.swp d j i := by
    have hi : i < d.size := by omega
    apply Array.ext
    · rw [swp_size, swp_size]
    · intro k h1 h2
      have e1 := swp_get d hi hj k
      have e2 := swp_get d hj hi k
      rw [getElem!_pos _ k h1] at e1
      rw [getElem!_pos _ k h2] at e2
      rw [e1, e2]
      repeat' split
      all_goals first | rfl | omega | (congr 1; omega)
  rw [e]
  exact h.swap hO hij hj hT

/-! ### The sort by putting in -/
structure Ins1 (T : α → α → Prop) (a j i : Nat) (d : Array α) : Prop where
  rest : ∀ p q, a ≤ p → p < q → q ≤ i → p ≠ j → q ≠ j → T d[p]! d[q]!
  right : ∀ q, j < q → q ≤ i → T d[j]! d[q]!
theorem inner_ok (hO : Ord lt T) (a i : Nat) : ∀ (j : Nat) (d : Array α), a ≤ j → j ≤ i → i < d.size → Stb lt T d → Ins1 T a j i d →
    Pmt a (i + 1) d (insInner lt a j d) ∧ Stb lt T (insInner lt a j d) ∧ Srt T a (i + 1) (insInner lt a j d) := by
  intro j
  induction j with
  | zero =>
    intro d haj hji his hS hI
    refine ⟨?_, ?_, ?_⟩
    · unfold insInner; exact Pmt.refl _ _ _
    · unfold insInner; exact hS
    · unfold insInner
      intro p q hp hpq hq
      by_cases e : p = 0
      · subst e; exact hI.right q hpq (by omega)
      · exact hI.rest p q hp hpq (by omega) e (by omega)
  | succ j ih =>
    intro d haj hji his hS hI
    by_cases hc : a < j + 1 ∧ lt d[j + 1]! d[j + 1 - 1]! = true
    · rw [insInner_go lt a (j + 1) d hc.1 hc.2]
      have hT : T d[j + 1]! d[j]! := hS.yes (by omega) (by omega) hc.2
      have hg := fun k => swp_get d (i := j + 1) (j := j) (by omega) (by omega) k
      have hI2 : Ins1 T a j i (Go.Sort.swp d (j + 1) j) := by
        refine ⟨fun p q hp hpq hq h1 h2 => ?_, fun q h1 h2 => ?_⟩
        · rw [hg p, hg q, if_neg h1, if_neg h2]
          by_cases e1 : p = j + 1
          · rw [if_pos e1, if_neg (by omega)]
            exact hI.rest j q (by omega) (by omega) hq (by omega) (by omega)
          · rw [if_neg e1]
            by_cases e2 : q = j + 1
            · rw [if_pos e2]
              exact hI.rest p j hp (by omega) (by omega) (by omega) (by omega)
            · rw [if_neg e2]
              exact hI.rest p q hp hpq hq e1 e2
        · rw [hg j, if_pos rfl, hg q, if_neg (by omega)]
          by_cases e2 : q = j + 1
          · rw [if_pos e2]; exact hT
          · rw [if_neg e2]; exact hI.right q (by omega) h2
      obtain ⟨h1, h2, h3⟩ := ih (Go.Sort.swp d (j + 1) j) (by omega) (by omega) (by rw [swp_size]; exact his) (hS.swap hO rfl (by omega) hT) hI2
      exact ⟨(Pmt.swp (by omega) (by omega) (by omega) (by omega) (by omega) (by omega)).trans h1, h2, h3⟩
    · have hst : j + 1 ≤ a ∨ lt d[j + 1]! d[j + 1 - 1]! = false := by
        by_cases e : a < j + 1
        · right
          cases e2 : lt d[j + 1]! d[j + 1 - 1]!
          · rfl
          · exact absurd ⟨e, e2⟩ hc
        · left; omega
      rw [insInner_stop lt a (j + 1) d hst]
      refine ⟨Pmt.refl _ _ _, hS, fun p q hp hpq hq => ?_⟩
      by_cases e1 : p = j + 1
      · rw [e1]; exact hI.right q (by omega) (by omega)
      by_cases e2 : q = j + 1
      · rw [e2]
        have hl : T d[j]! d[j + 1]! := hS.no hO (by omega) (by omega) (by rcases hst with h | h; (omega); exact h)
        by_cases e3 : p = j
        · rw [e3]; exact hl
        · exact hO.tr _ _ _ (hI.rest p j hp (by omega) (by omega) e1 (by omega)) hl
      · exact hI.rest p q hp hpq (by omega) e1 e2
theorem outer_ok (hO : Ord lt T) (a b : Nat) : ∀ (n i : Nat) (d : Array α), b - i ≤ n → a < i → (i ≤ b ∨ i = a + 1) → b ≤ d.size → Stb lt T d → Srt T a i d →
    Pmt a b d (insOuter lt a b i d) ∧ Stb lt T (insOuter lt a b i d) ∧ Srt T a b (insOuter lt a b i d) := by
  intro n
  induction n with
  | zero =>
    intro i d hn hai hib hbs hS hs
    rw [insOuter_stop lt a b i d (by omega)]
    exact ⟨Pmt.refl _ _ _, hS, fun p q h1 h2 h3 => hs p q h1 h2 (by omega)⟩
  | succ n ih =>
    intro i d hn hai hib hbs hS hs
    by_cases h : i < b
    · rw [insOuter_go lt a b i d h]
      obtain ⟨h1, h2, h3⟩ := inner_ok hO a i i d (by omega) (Nat.le_refl _) (by omega) hS ⟨fun p q hp hpq hq e1 e2 => hs p q hp hpq (by omega), fun q h1 h2 => by omega⟩
      obtain ⟨k1, k2, k3⟩ := ih (i + 1) _ (by omega) (by omega) (by omega) (by rw [h1.size]; exact hbs) h2 h3
      exact ⟨(h1.wide (Nat.le_refl _) (by omega)).trans k1, k2, k3⟩
    · rw [insOuter_stop lt a b i d h]
      exact ⟨Pmt.refl _ _ _, hS, fun p q h1 h2 h3 => hs p q h1 h2 (by omega)⟩
theorem ins_ok (hO : Ord lt T) {a b : Nat} {d : Array α} (hbs : b ≤ d.size) (hS : Stb lt T d) :
    Pmt a b d (insertionSort lt d a b) ∧ Stb lt T (insertionSort lt d a b) ∧ Srt T a b (insertionSort lt d a b) :=
  outer_ok hO a b (b - (a + 1)) (a + 1) d (Nat.le_refl _) (by omega) (Or.inr rfl) hbs hS (fun p q h1 h2 h3 => by omega)

/-! ### Merging in place -/
/-- What is looked for from start to r: up to start it is the smaller one ahead, from r on the one behind. -/
structure Cutp (T : α → α → Prop) (d : Array α) (p s0 r0 s r : Nat) : Prop where
  lo : s0 ≤ s
  mid : s ≤ r
  hi : r ≤ r0
  bel : ∀ c, s0 ≤ c → c < s → T d[c]! d[p - c]!
  abv : ∀ c, r ≤ c → c < r0 → T d[p - c]! d[c]!
theorem Cutp.start {d : Array α} {p s0 r0 : Nat} (h : s0 ≤ r0) : Cutp T d p s0 r0 s0 r0 := ⟨Nat.le_refl _, h, Nat.le_refl _, fun c h1 h2 => by omega, fun c h1 h2 => by omega⟩
/-- The bounds of the place that is looked for. -/
structure Bnd (a m b mid s0 r0 : Nat) : Prop where
  hmid : mid = (a + b) / 2
  am : a < m
  mb : m < b
  two : a + 2 ≤ b
  cas : (mid < m ∧ s0 = mid + m - b ∧ r0 = mid) ∨ (m ≤ mid ∧ s0 = a ∧ r0 = m)
theorem Bnd.fact {a m b mid s0 r0 : Nat} (h : Bnd a m b mid s0 r0) : a ≤ s0 ∧ s0 ≤ r0 ∧ r0 ≤ mid ∧ r0 ≤ m ∧ a < mid ∧ mid < b ∧ True ∧ ∀ c, s0 ≤ c → c < r0 → m ≤ mid + m - 1 - c ∧ mid + m - 1 - c < b ∧ c < mid + m - 1 - c := by
  have h1 := h.hmid
  have h2 := h.am
  have h3 := h.mb
  have h4 := h.two
  rcases h.cas with ⟨e1, e2, e3⟩ | ⟨e1, e2, e3⟩
  · refine ⟨by omega, by omega, by omega, by omega, by omega, by omega, trivial, fun c k1 k2 => ⟨by omega, by omega, by omega⟩⟩
  · refine ⟨by omega, by omega, by omega, by omega, by omega, by omega, trivial, fun c k1 k2 => ⟨by omega, by omega, by omega⟩⟩
theorem Cutp.down {d : Array α} {a m b mid s0 r0 s r c : Nat} (hO : Ord lt T) (hB : Bnd a m b mid s0 r0) (h : Cutp T d (mid + m - 1) s0 r0 s r) (h1 : Srt T a m d) (h2 : Srt T m b d) (hc : s ≤ c ∧ c < r) (ht : T d[c]! d[mid + m - 1 - c]!) : Cutp T d (mid + m - 1) s0 r0 (c + 1) r := by
  have hf := hB.fact
  have := h.lo
  have := h.hi
  refine ⟨by omega, by omega, h.hi, fun k k1 k2 => ?_, h.abv⟩
  by_cases e : k = c
  · rw [e]; exact ht
  · have hk := hf.2.2.2.2.2.2.2 k k1 (by omega)
    have hcc := hf.2.2.2.2.2.2.2 c (by omega) (by omega)
    exact hO.tr _ _ _ (hO.tr _ _ _ (h1 k c (by omega) (by omega) (by omega)) ht) (h2 _ _ (by omega) (by omega) (by omega))
theorem Cutp.up {d : Array α} {a m b mid s0 r0 s r c : Nat} (hO : Ord lt T) (hB : Bnd a m b mid s0 r0) (h : Cutp T d (mid + m - 1) s0 r0 s r) (h1 : Srt T a m d) (h2 : Srt T m b d) (hc : s ≤ c ∧ c < r) (ht : T d[mid + m - 1 - c]! d[c]!) : Cutp T d (mid + m - 1) s0 r0 s c := by
  have hf := hB.fact
  have := h.lo
  have := h.hi
  refine ⟨h.lo, by omega, by omega, h.bel, fun k k1 k2 => ?_⟩
  by_cases e : k = c
  · rw [e]; exact ht
  · have hk := hf.2.2.2.2.2.2.2 k (by omega) (by omega)
    have hcc := hf.2.2.2.2.2.2.2 c (by omega) (by omega)
    exact hO.tr _ _ _ (hO.tr _ _ _ (h2 _ _ (by omega) (by omega) (by omega)) ht) (h1 c k (by omega) (by omega) (by omega))
/-- Behind the rotation: two halves, each two rows in order, all of the one ahead of all of the other. -/
structure Half (lt : α → α → Bool) (T : α → α → Prop) (a st mid en b : Nat) (d : Array α) : Prop where
  stb : Stb lt T d
  l1 : Srt T a st d
  l2 : Srt T st mid d
  r1 : Srt T mid en d
  r2 : Srt T en b d
  lr : ∀ p q, a ≤ p → p < mid → mid ≤ q → q < b → T d[p]! d[q]!
theorem half_of {d d' : Array α} {a m b mid s0 r0 s : Nat} (hO : Ord lt T) (hS : Stb lt T d) (hb : b ≤ d.size) (hB : Bnd a m b mid s0 r0) (h : Cutp T d (mid + m - 1) s0 r0 s s) (h1 : Srt T a m d) (h2 : Srt T m b d) (hx : Ix d d' (rotI s m (mid + m - s))) : Half lt T a s mid (mid + m - s) b d' := by
  have hf := hB.fact
  have l1 := h.lo
  have l2 := h.hi
  have ham := hB.am
  have hmb := hB.mb
  have hen : m ≤ mid + m - s ∧ mid + m - s ≤ b := by
    refine ⟨by omega, ?_⟩
    rcases hB.cas with ⟨e1, e2, e3⟩ | ⟨e1, e2, e3⟩
    · omega
    · have := hB.hmid; omega
  have hcr : ∀ p q, a ≤ p → p < mid → mid ≤ q → q < b → T d'[p]! d'[q]! := by
    intro p q hp hpm hmq hqb
    rw [hx.at_, hx.at_]
    have key1 : ∀ x y, m ≤ y → y < mid + m - s → s ≤ x → x < m → T d[y]! d[x]! := by
      intro x y y1 y2 x1 x2
      by_cases e : s < r0
      · have h3 := h.abv s (Nat.le_refl _) e
        have h4 := hf.2.2.2.2.2.2.2 s l1 e
        have h5 : T d[y]! d[s]! := by
          by_cases e2 : y = mid + m - 1 - s
          · rw [e2]; exact h3
          · exact hO.tr _ _ _ (h2 y _ y1 (by omega) (by omega)) h3
        by_cases e3 : x = s
        · rw [e3]; exact h5
        · exact hO.tr _ _ _ h5 (h1 s x (by omega) (by omega) x2)
      · rcases hB.cas with ⟨e1, e2, e3⟩ | ⟨e1, e2, e3⟩ <;> omega
    have key2 : ∀ x y, a ≤ x → x < s → mid + m - s ≤ y → y < b → T d[x]! d[y]! := by
      intro x y x1 x2 y1 y2
      by_cases e : s0 < s
      · have h3 := h.bel (s - 1) (by omega) (by omega)
        have h4 := hf.2.2.2.2.2.2.2 (s - 1) (by omega) (by omega)
        have e5 : mid + m - 1 - (s - 1) = mid + m - s := by omega
        rw [e5] at h3 h4
        have h5 : T d[x]! d[mid + m - s]! := by
          by_cases e2 : x = s - 1
          · rw [e2]; exact h3
          · exact hO.tr _ _ _ (h1 x (s - 1) x1 (by omega) (by omega)) h3
        by_cases e3 : y = mid + m - s
        · rw [e3]; exact h5
        · exact hO.tr _ _ _ h5 (h2 _ y (by omega) (by omega) y2)
      · rcases hB.cas with ⟨e1, e2, e3⟩ | ⟨e1, e2, e3⟩ <;> omega
    unfold rotI
    have hmm : s + (mid + m - s - m) = mid := by omega
    by_cases p1 : p < s
    · rw [if_pos p1]
      rw [if_neg (show ¬ q < s by omega), if_neg (show ¬ q < s + (mid + m - s - m) by omega)]
      by_cases q1 : q < mid + m - s
      · rw [if_pos q1]
        exact h1 p _ hp (by omega) (by omega)
      · rw [if_neg q1]; exact key2 p q hp p1 (by omega) hqb
    · rw [if_neg p1, if_pos (show p < s + (mid + m - s - m) by omega)]
      rw [if_neg (show ¬ q < s by omega), if_neg (show ¬ q < s + (mid + m - s - m) by omega)]
      by_cases q1 : q < mid + m - s
      · rw [if_pos q1]; exact key1 _ _ (by omega) (by omega) (by omega) (by omega)
      · rw [if_neg q1]; exact h2 _ _ (by omega) (by omega) hqb
  have hl1 : Srt T a s d' := fun p q k1 k2 k3 => by
    rw [hx.at_, hx.at_]; unfold rotI
    rw [if_pos (by omega), if_pos k3]; exact h1 p q k1 k2 (by omega)
  have hl2 : Srt T s mid d' := fun p q k1 k2 k3 => by
    rw [hx.at_, hx.at_]; unfold rotI
    rw [if_neg (by omega), if_pos (by omega), if_neg (by omega), if_pos (by omega)]; exact h2 _ _ (by omega) (by omega) (by omega)
  have hr1 : Srt T mid (mid + m - s) d' := fun p q k1 k2 k3 => by
    rw [hx.at_, hx.at_]; unfold rotI
    rw [if_neg (by omega), if_neg (by omega), if_pos (by omega), if_neg (by omega), if_neg (by omega), if_pos (by omega)]; exact h1 _ _ (by omega) (by omega) (by omega)
  have hr2 : Srt T (mid + m - s) b d' := fun p q k1 k2 k3 => by
    rw [hx.at_, hx.at_]; unfold rotI
    rw [if_neg (by omega), if_neg (by omega), if_neg (by omega), if_neg (by omega), if_neg (by omega), if_neg (by omega)]; exact h2 _ _ (by omega) (by omega) (by omega)
  refine ⟨?_, hl1, hl2, hr1, hr2, hcr⟩
  refine hS.moved (lo := s) (hi := mid + m - s) (g := rotI s (s + (mid + m - s - m)) (mid + m - s)) hO hx (fun k => ?_) (fun k hk => ?_) (by omega) fun p q hpq hq hfq => ?_
  · unfold rotI; repeat' split
    all_goals omega
  · unfold rotI; repeat' split
    all_goals omega
  · have e : s ≤ p ∧ p < mid ∧ mid ≤ q ∧ q < mid + m - s := by
      unfold rotI at hfq
      revert hfq
      repeat' split
      all_goals omega
    exact hcr p q (by omega) e.2.1 e.2.2.1 (by omega)
/-- The two halves, each merged. -/
theorem half_left {a st mid en b : Nat} {d d' : Array α} (hO : Ord lt T) (h : Half lt T a st mid en b d) (hm : mid ≤ en ∧ en ≤ b) (hb : b ≤ d.size) (hp : Pmt a mid d d') (hs : Srt T a mid d') (h5 : Stb lt T d') :
    Stb lt T d' ∧ Srt T a mid d' ∧ Srt T mid en d' ∧ Srt T en b d' ∧ (∀ p q, a ≤ p → p < mid → mid ≤ q → q < b → T d'[p]! d'[q]!) := by
  refine ⟨h5, hs, fun p q k1 k2 k3 => ?_, fun p q k1 k2 k3 => ?_, fun p q k1 k2 k3 k4 => ?_⟩
  · rw [hp.outside (Or.inr k1), hp.outside (Or.inr (by omega))]; exact h.r1 p q k1 k2 k3
  · rw [hp.outside (Or.inr (by omega)), hp.outside (Or.inr (by omega))]; exact h.r2 p q k1 k2 k3
  · obtain ⟨j, j1, j2, e⟩ := hp.within ⟨k1, k2⟩
    rw [e, hp.outside (Or.inr k3)]; exact h.lr j q j1 j2 k3 k4
theorem half_right {a mid b : Nat} {d d' : Array α} (hl : Srt T a mid d) (hlr : ∀ p q, a ≤ p → p < mid → mid ≤ q → q < b → T d[p]! d[q]!) (hp : Pmt mid b d d') (hs : Srt T mid b d') : Srt T a b d' := by
  intro p q k1 k2 k3
  by_cases e : mid ≤ p
  · exact hs p q e k2 k3
  · rw [hp.outside (Or.inl (by omega))]
    by_cases e2 : q < mid
    · rw [hp.outside (Or.inl e2)]; exact hl p q k1 k2 e2
    · obtain ⟨j, j1, j2, e3⟩ := hp.within ⟨by omega, k3⟩
      rw [e3]; exact hlr p j k1 (by omega) j1 j2
/-- One row is put into the other one, all at one place. -/
theorem mrg {d d' : Array α} {a m b s e : Nat} (hO : Ord lt T) (hS : Stb lt T d) (hb : b ≤ d.size) (ha : a ≤ s ∧ s ≤ m ∧ m ≤ e ∧ e ≤ b) (h1 : Srt T a m d) (h2 : Srt T m b d) (hx : Ix d d' (rotI s m e))
    (k1 : ∀ x y, s ≤ x → x < m → m ≤ y → y < e → T d[y]! d[x]!) (k3 : ∀ x y, a ≤ x → x < s → m ≤ y → y < b → T d[x]! d[y]!) (k4 : ∀ x y, s ≤ x → x < m → e ≤ y → y < b → T d[x]! d[y]!) : Pmt a b d d' ∧ Stb lt T d' ∧ Srt T a b d' := by
  have hp : Pmt a b d d' := (Pmt.rot hx ha.2.1 ha.2.2.1).wide ha.1 ha.2.2.2
  have hs : Srt T a b d' := by
    intro p q hp1 hpq hq
    rw [hx.at_, hx.at_]
    unfold rotI
    by_cases p1 : p < s
    · rw [if_pos p1]
      by_cases q1 : q < s
      · rw [if_pos q1]; exact h1 p q hp1 hpq (by omega)
      · rw [if_neg q1]
        by_cases q2 : q < s + (e - m)
        · rw [if_pos q2]; exact k3 _ _ hp1 p1 (by omega) (by omega)
        · rw [if_neg q2]
          by_cases q3 : q < e
          · rw [if_pos q3]; exact h1 _ _ hp1 (by omega) (by omega)
          · rw [if_neg q3]; exact k3 _ _ hp1 p1 (by omega) hq
    · rw [if_neg p1, if_neg (show ¬ q < s by omega)]
      by_cases p2 : p < s + (e - m)
      · rw [if_pos p2]
        by_cases q2 : q < s + (e - m)
        · rw [if_pos q2]; exact h2 _ _ (by omega) (by omega) (by omega)
        · rw [if_neg q2]
          by_cases q3 : q < e
          · rw [if_pos q3]; exact k1 _ _ (by omega) (by omega) (by omega) (by omega)
          · rw [if_neg q3]; exact h2 _ _ (by omega) (by omega) hq
      · rw [if_neg p2, if_neg (show ¬ q < s + (e - m) by omega)]
        by_cases p3 : p < e
        · rw [if_pos p3]
          by_cases q3 : q < e
          · rw [if_pos q3]; exact h1 _ _ (by omega) (by omega) (by omega)
          · rw [if_neg q3]; exact k4 _ _ (by omega) (by omega) (by omega) hq
        · rw [if_neg p3, if_neg (show ¬ q < e by omega)]; exact h2 _ _ (by omega) hpq hq
  exact ⟨hp, hS.sorted hO hp hb hs, hs⟩
theorem rotI_up {a k p : Nat} (h : a ≤ k) : rotI a (a + 1) (k + 1) (if p = k + 1 then k else if p = k then k + 1 else p) = rotI a (a + 1) (k + 2) p := by
  unfold rotI
  repeat' split
  all_goals omega
theorem rotI_down {m k p : Nat} (h : 1 ≤ k) (hk : k ≤ m) : rotI k m (m + 1) (if p = k - 1 then k else if p = k then k - 1 else p) = rotI (k - 1) m (m + 1) p := by
  unfold rotI
  repeat' split
  all_goals omega
theorem rotI_none {a p : Nat} : rotI a (a + 1) (a + 1) p = p := by
  unfold rotI
  repeat' split
  all_goals omega
theorem rotI_none' {m p : Nat} : rotI m m (m + 1) p = p := by
  unfold rotI
  repeat' split
  all_goals omega
end Go.Proofs.Ytfnkboegbclnaaa.Stm
