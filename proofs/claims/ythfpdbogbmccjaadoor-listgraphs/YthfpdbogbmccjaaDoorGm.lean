/- The plain mathematics of graphs: sets of things as numbers, edges, what comes behind what, ways by things below a bound. No program is named here. -/
import Derived.Lib.TrailingZeros
namespace Go.Proofs.YthfpdbogbmccjaaDoor.Gm
open Go

/-- The set of those below n of which p holds, as a number. -/
def bs (p : Nat → Bool) : Nat → Nat
  | 0 => 0
  | n + 1 => bs p n ||| (if p n then 2 ^ n else 0)
theorem testBit_bs (p : Nat → Bool) (n j : Nat) : (bs p n).testBit j = (decide (j < n) && p j) := by
  induction n with
  | zero => simp [bs]
  | succ n ih =>
    rw [bs, Nat.testBit_or, ih]
    by_cases e : j = n
    · subst e
      cases hp : p j <;> simp
    · have : (if p n then 2 ^ n else 0).testBit j = false := by
        split
        · rw [Nat.testBit_two_pow]; simp; omega
        · simp
      rw [this, Bool.or_false]
      congr 1
      rw [decide_eq_decide]
      omega
theorem bs_lt (p : Nat → Bool) (n : Nat) : bs p n < 2 ^ n := by
  refine Nat.lt_pow_two_of_testBit _ fun i hi => ?_
  rw [testBit_bs]
  simp
  omega
theorem bs_eq {x : Nat} {p : Nat → Bool} {n : Nat} (hx : x < 2 ^ n) (h : ∀ j, j < n → x.testBit j = p j) : x = bs p n := by
  apply Nat.eq_of_testBit_eq
  intro j
  rw [testBit_bs]
  by_cases hj : j < n
  · simp [hj, h j hj]
  · rw [Nat.testBit_lt_two_pow (Nat.lt_of_lt_of_le hx (Nat.pow_le_pow_right (by omega) (by omega)))]
    simp [hj]
theorem bs_congr {p q : Nat → Bool} {n : Nat} (h : ∀ j, j < n → p j = q j) : bs p n = bs q n := bs_eq (bs_lt p n) fun j hj => by rw [testBit_bs]; simp [hj, h j hj]
theorem bs_or (p q : Nat → Bool) (n : Nat) : bs p n ||| bs q n = bs (fun j => p j || q j) n :=
  bs_eq (Nat.or_lt_two_pow (bs_lt p n) (bs_lt q n)) fun j hj => by rw [Nat.testBit_or, testBit_bs, testBit_bs]; simp [hj]
theorem bs_and (p q : Nat → Bool) (n : Nat) : bs p n &&& bs q n = bs (fun j => p j && q j) n :=
  bs_eq (Nat.and_lt_two_pow _ (bs_lt q n)) fun j hj => by rw [Nat.testBit_and, testBit_bs, testBit_bs]; simp [hj]
theorem bs_one {t n : Nat} (ht : t < n) : 2 ^ t = bs (fun j => decide (j = t)) n :=
  bs_eq (Nat.pow_lt_pow_right (by omega) ht) fun j hj => by rw [Nat.testBit_two_pow, decide_eq_decide]; omega
theorem bs_zero {p : Nat → Bool} {n : Nat} : bs p n = 0 ↔ ∀ j, j < n → p j = false := by
  constructor
  · intro h j hj
    have := testBit_bs p n j
    rw [h] at this
    simpa [hj] using this.symm
  · intro h
    exact ((bs_eq (x := 0) (Nat.two_pow_pos n) (fun j hj => by simp [h j hj]))).symm
theorem bs_lt64 (p : Nat → Bool) : bs p 60 < 18446744073709551616 := Nat.lt_of_lt_of_le (bs_lt p 60) (by decide)
theorem bs_lt60 (p : Nat → Bool) : bs p 60 < 1152921504606846976 := bs_lt p 60

theorem ctz_ex {x : Nat} (h0 : x ≠ 0) (h : x < 18446744073709551616) : ∃ m, x = 2 ^ Lib.ctz 64 x * (2 * m + 1) ∧ Lib.ctz 64 x < 64 := by
  unfold Lib.ctz
  rw [if_neg h0]
  exact Lib.ctzFrom_spec 64 x (by omega) h
theorem ctz_form {x : Nat} (h0 : x ≠ 0) (h : x < 18446744073709551616) : ∃ m, x = 2 ^ (Lib.ctz 64 x + 1) * m + 2 ^ Lib.ctz 64 x := by
  obtain ⟨m, h1, _⟩ := ctz_ex h0 h
  refine ⟨m, ?_⟩
  generalize Lib.ctz 64 x = k at h1
  rw [h1, Nat.pow_succ, Nat.mul_add, Nat.mul_one, Nat.mul_assoc]
theorem form_bit (k m j : Nat) : (2 ^ (k + 1) * m + 2 ^ k).testBit j = if j < k + 1 then decide (j = k) else m.testBit (j - (k + 1)) := by
  rw [Nat.testBit_two_pow_mul_add _ (Nat.pow_lt_pow_right (by omega) (by omega)), Nat.testBit_two_pow]
  split
  · rw [decide_eq_decide]; omega
  · rfl
theorem form_pred (k m j : Nat) : (2 ^ (k + 1) * m + 2 ^ k - 1).testBit j = if j < k + 1 then decide (j < k) else m.testBit (j - (k + 1)) := by
  have hp : 0 < 2 ^ k := Nat.two_pow_pos k
  have h2 : 2 ^ (k + 1) = 2 * 2 ^ k := by rw [Nat.pow_succ]; omega
  rw [show 2 ^ (k + 1) * m + 2 ^ k - 1 = 2 ^ (k + 1) * m + (2 ^ k - 1) by omega, Nat.testBit_two_pow_mul_add _ (by omega), Nat.testBit_two_pow_sub_one]
/-- The lowest of a set, and the set without it. -/
theorem low_bit {x : Nat} (h0 : x ≠ 0) (h : x < 18446744073709551616) : x.testBit (Lib.ctz 64 x) = true ∧ (∀ j, j < Lib.ctz 64 x → x.testBit j = false) ∧ ∀ j, (x &&& (x - 1)).testBit j = (x.testBit j && decide (Lib.ctz 64 x < j)) := by
  obtain ⟨m, hm⟩ := ctz_form h0 h
  generalize Lib.ctz 64 x = k at *
  subst hm
  refine ⟨by rw [form_bit]; simp, fun j hj => by rw [form_bit, if_pos (by omega)]; simp; omega, fun j => ?_⟩
  rw [Nat.testBit_and, form_bit, form_pred]
  by_cases hj : j < k + 1
  · rw [if_pos hj, if_pos hj]
    have : decide (k < j) = false := by simp; omega
    rw [this, Bool.and_false]
    by_cases e : j = k
    · subst e; simp
    · simp [e]
  · rw [if_neg hj, if_neg hj]
    have : decide (k < j) = true := by simp; omega
    rw [this, Bool.and_true, Bool.and_self]

/-- Those below n of which p holds, rising. -/
def bl (p : Nat → Bool) (n : Nat) : List Nat := (List.range n).filter p
theorem bl_succ (p : Nat → Bool) (n : Nat) : bl p (n + 1) = bl p n ++ (if p n then [n] else []) := by
  unfold bl
  rw [List.range_succ, List.filter_append]
  cases h : p n <;> simp [h]
theorem mem_bl {p : Nat → Bool} {n j : Nat} : j ∈ bl p n ↔ j < n ∧ p j = true := by simp [bl]
theorem bl_skip {p : Nat → Bool} {m c : Nat} (hmc : m ≤ c) (h : ∀ j, m ≤ j → j < c → p j = false) : bl p c = bl p m := by
  induction c with
  | zero => rw [show m = 0 by omega]
  | succ c ih =>
    by_cases e : m = c + 1
    · rw [e]
    · rw [bl_succ, ih (by omega) (fun j h1 h2 => h j h1 (by omega)), h c (by omega) (by omega)]
      simp
theorem bl_len (p : Nat → Bool) (n : Nat) : (bl p n).length ≤ n := by
  unfold bl
  have := List.length_filter_le p (List.range n)
  simpa using this
theorem bl_nil {p : Nat → Bool} {n : Nat} : bl p n = [] ↔ ∀ j, j < n → p j = false := by
  unfold bl
  rw [List.filter_eq_nil_iff]
  simp
/-- What is left of a set p when those below m are gone. -/
def lft (p : Nat → Bool) (m j : Nat) : Bool := p j && decide (m ≤ j)
theorem lft_step {p : Nat → Bool} {m : Nat} (h0 : bs (lft p m) 60 ≠ 0) : ∃ c, Lib.ctz 64 (bs (lft p m) 60) = c ∧ m ≤ c ∧ c < 60 ∧ p c = true ∧ bl p (c + 1) = bl p m ++ [c] ∧ bs (lft p m) 60 &&& (bs (lft p m) 60 - 1) = bs (lft p (c + 1)) 60 := by
  have hx := bs_lt64 (lft p m)
  obtain ⟨a1, a2, a3⟩ := low_bit h0 hx
  refine ⟨_, rfl, ?_⟩
  generalize Lib.ctz 64 (bs (lft p m) 60) = c at *
  rw [testBit_bs] at a1
  simp [lft] at a1
  obtain ⟨c1, c2, c3⟩ := a1
  have hsk : ∀ j, m ≤ j → j < c → p j = false := fun j h1 h2 => by
    have := a2 j h2
    rw [testBit_bs] at this
    simp [lft, h1] at this
    exact this (by omega)
  refine ⟨c3, c1, c2, ?_, ?_⟩
  · rw [bl_succ, bl_skip c3 hsk, c2]; rfl
  · refine bs_eq (Nat.lt_of_le_of_lt Nat.and_le_left (bs_lt _ _)) fun j hj => ?_
    rw [a3, testBit_bs]
    simp [lft, hj]
    rw [Bool.and_assoc]
    congr 1
    rw [Bool.eq_iff_iff]
    simp
    omega

/- Edges. -/
structure Ed where
  f : Int
  t : Int
def ed (l : List Ed) (k : Nat) : Ed := l.getD k ⟨0, 0⟩
theorem ed_get {l : List Ed} {k : Nat} (hk : k < l.length) : ed l k = l[k] := by simp [ed, hk]
theorem ed_mem {l : List Ed} {k : Nat} (hk : k < l.length) : ed l k ∈ l := by rw [ed_get hk]; exact List.getElem_mem hk
def okI (n : Int) (e : Ed) : Bool := decide (0 ≤ e.f ∧ e.f < n ∧ 0 ≤ e.t ∧ e.t < n)
def okE (n : Int) (l : List Ed) : Bool := l.all (okI n)
def chk (n : Int) (l : List Ed) : Int := if n < 0 ∨ 60 < n then 1 else if 400 < l.length then 2 else if okE n l = true then 0 else 4
def eB (l : List Ed) (i j : Nat) : Bool := l.any fun e => decide (e.f = i ∧ e.t = j)
theorem eB_nil (i j : Nat) : eB [] i j = false := rfl
theorem take_snoc {l : List Ed} {j : Nat} (hj : j < l.length) : l.take (j + 1) = l.take j ++ [ed l j] := by
  rw [ed_get hj, List.take_append_getElem]
theorem eB_snoc (l : List Ed) (e : Ed) (i j : Nat) : eB (l ++ [e]) i j = (eB l i j || decide (e.f = i ∧ e.t = j)) := by simp [eB]
theorem eB_true {l : List Ed} {i j : Nat} : eB l i j = true ↔ ∃ e ∈ l, e.f = i ∧ e.t = j := by simp [eB]
structure Gr (n : Nat) (l : List Ed) : Prop where
  n60 : n ≤ 60
  ok : ∀ e ∈ l, 0 ≤ e.f ∧ e.f < n ∧ 0 ≤ e.t ∧ e.t < n
theorem Gr.lt {n : Nat} {l : List Ed} (h : Gr n l) {i j : Nat} (he : eB l i j = true) : i < n ∧ j < n := by
  obtain ⟨e, he, h1, h2⟩ := eB_true.1 he
  have := h.ok e he
  omega

/- Ways. -/
inductive Rch (E : Nat → Nat → Bool) : Nat → Nat → Prop
  | one {i j} : E i j = true → Rch E i j
  | more {i j k} : E i j = true → Rch E j k → Rch E i k
theorem Rch.trans {E : Nat → Nat → Bool} {i j k : Nat} (h : Rch E i j) (g : Rch E j k) : Rch E i k := by
  induction h with
  | one e => exact .more e g
  | more e _ ih => exact .more e (ih g)
theorem Rch.snoc {E : Nat → Nat → Bool} {i j k : Nat} (h : Rch E i j) (g : E j k = true) : Rch E i k := h.trans (.one g)
/-- Ways by way of things below m, as the program makes them. -/
def vB (E : Nat → Nat → Bool) : Nat → Nat → Nat → Bool
  | 0, i, j => E i j
  | m + 1, i, j => vB E m i j || (vB E m i m && vB E m m j)
theorem vB_rch {E : Nat → Nat → Bool} : ∀ {m i j : Nat}, vB E m i j = true → Rch E i j
  | 0, i, j, h => .one h
  | m + 1, i, j, h => by
    simp [vB] at h
    rcases h with h | ⟨h1, h2⟩
    · exact vB_rch h
    · exact (vB_rch h1).trans (vB_rch h2)
def Ch (E : Nat → Nat → Bool) : Nat → List Nat → Nat → Prop
  | i, [], j => E i j = true
  | i, x :: r, j => E i x = true ∧ Ch E x r j
theorem Ch.split {E : Nat → Nat → Bool} : ∀ {r1 r2 : List Nat} {i j m : Nat}, Ch E i (r1 ++ m :: r2) j → Ch E i r1 m ∧ Ch E m r2 j
  | [], _, _, _, _, h => h
  | x :: r1, _, _, _, _, h => by
    obtain ⟨h1, h2⟩ := Ch.split (r1 := r1) h.2
    exact ⟨⟨h.1, h1⟩, h2⟩
theorem vB_mono {E : Nat → Nat → Bool} {m i j : Nat} (h : vB E m i j = true) : vB E (m + 1) i j = true := by simp [vB, h]
theorem first_mem {m : Nat} : ∀ {r : List Nat}, m ∈ r → ∃ r1 r2, r = r1 ++ m :: r2 ∧ m ∉ r1
  | x :: r, h => by
    by_cases e : x = m
    · subst e; exact ⟨[], r, rfl, by simp⟩
    · obtain ⟨r1, r2, e2, h2⟩ := first_mem (r := r) (by rcases List.mem_cons.1 h with h | h; exact absurd h.symm e; exact h)
      exact ⟨x :: r1, r2, by rw [e2]; rfl, by simp; exact ⟨Ne.symm e, h2⟩⟩
theorem vB_of {E : Nat → Nat → Bool} (m : Nat) : ∀ (N : Nat) (r : List Nat), r.length ≤ N → ∀ i j, (∀ x ∈ r, x < m) → Ch E i r j → vB E m i j = true := by
  induction m with
  | zero =>
    intro N r _ i j hx hc
    cases r with
    | nil => exact hc
    | cons x r => exact absurd (hx x List.mem_cons_self) (by omega)
  | succ m ihm =>
    intro N
    induction N with
    | zero =>
      intro r hN i j hx hc
      have : r = [] := List.eq_nil_of_length_eq_zero (by omega)
      subst this
      exact vB_mono (ihm 0 [] (Nat.le_refl _) i j (by simp) hc)
    | succ N ihN =>
      intro r hN i j hx hc
      by_cases hm : m ∈ r
      · obtain ⟨r1, r2, rfl, hn1⟩ := first_mem hm
        obtain ⟨h1, h2⟩ := hc.split
        have a1 := ihm r1.length r1 (Nat.le_refl _) i m (fun x h => by have := hx x (List.mem_append_left _ h); have : x ≠ m := fun e => hn1 (e ▸ h); omega) h1
        have a2 := ihN r2 (by simp at hN; omega) m j (fun x h => hx x (List.mem_append_right _ (List.mem_cons_of_mem _ h))) h2
        simp [vB] at a2 ⊢
        rcases a2 with a2 | a2
        · exact Or.inr ⟨a1, a2⟩
        · exact Or.inr ⟨a1, a2.2⟩
      · exact vB_mono (ihm (N + 1) r hN i j (fun x h => by have := hx x h; have : x ≠ m := fun e => hm (e ▸ h); omega) hc)
theorem rch_ch {E : Nat → Nat → Bool} (hE : ∀ i j, E i j = true → i < 60 ∧ j < 60) {i j : Nat} (h : Rch E i j) : ∃ r, Ch E i r j ∧ ∀ x ∈ r, x < 60 := by
  induction h with
  | one e => exact ⟨[], e, by simp⟩
  | more e _ ih =>
    obtain ⟨r, h1, h2⟩ := ih
    exact ⟨_ :: r, ⟨e, h1⟩, fun x hx => by rcases List.mem_cons.1 hx with rfl | hx; exact (hE _ _ e).2; exact h2 x hx⟩
/-- What comes behind what. -/
def wB (l : List Ed) (i j : Nat) : Bool := vB (eB l) 60 i j
theorem wB_iff {n : Nat} {l : List Ed} (h : Gr n l) {i j : Nat} : wB l i j = true ↔ Rch (eB l) i j := by
  constructor
  · exact vB_rch
  · intro hr
    obtain ⟨r, h1, h2⟩ := rch_ch (fun i j e => by have := h.lt e; have := h.n60; omega) hr
    exact vB_of 60 r.length r (Nat.le_refl _) i j h2 h1
theorem rch_lt {n : Nat} {l : List Ed} (h : Gr n l) {i j : Nat} (hr : Rch (eB l) i j) : i < n ∧ j < n := by
  induction hr with
  | one e => exact h.lt e
  | more e _ ih => exact ⟨(h.lt e).1, ih.2⟩

/- One after the other. -/
def Fre (E : Nat → Nat → Bool) (n : Nat) (R : List Nat) (c : Nat) : Prop := c < n ∧ c ∉ R ∧ ∀ j, E j c = true → j ∈ R
inductive Grd (E : Nat → Nat → Bool) (n : Nat) : List Nat → Prop
  | nil : Grd E n []
  | snoc {R c} : Grd E n R → Fre E n R c → (∀ d, d < c → ¬ Fre E n R d) → Grd E n (R ++ [c])
theorem Grd.lt {E : Nat → Nat → Bool} {n : Nat} {R : List Nat} (h : Grd E n R) : ∀ x ∈ R, x < n := by
  induction h with
  | nil => simp
  | snoc _ f _ ih =>
    intro x hx
    rcases List.mem_append.1 hx with hx | hx
    · exact ih x hx
    · obtain rfl := List.mem_singleton.1 hx; exact f.1
theorem Grd.nodup {E : Nat → Nat → Bool} {n : Nat} {R : List Nat} (h : Grd E n R) : R.Pairwise (· ≠ ·) := by
  induction h with
  | nil => exact .nil
  | snoc _ f _ ih =>
    rw [List.pairwise_append]
    exact ⟨ih, by simp, fun a ha b hb => by obtain rfl := List.mem_singleton.1 hb; exact fun e => f.2.1 (e ▸ ha)⟩
/-- Whoever is ahead of one stands ahead of it. -/
theorem Grd.ahead {E : Nat → Nat → Bool} {n : Nat} {R : List Nat} (h : Grd E n R) : ∀ k (hk : k < R.length) j, E j R[k] = true → j ∈ R.take k := by
  induction h with
  | nil => intro k hk; simp at hk
  | @snoc R c _ f _ ih =>
    intro k hk j hj
    by_cases e : k < R.length
    · rw [List.getElem_append_left e] at hj
      rw [List.take_append_of_le_length (by omega)]
      exact ih k e j hj
    · have e2 : k = R.length := by simp at hk; omega
      subst e2
      simp at hj
      rw [List.take_append_of_le_length (by omega), List.take_length]
      exact f.2.2 j hj
theorem Grd.det {E : Nat → Nat → Bool} {n : Nat} {R : List Nat} (h : Grd E n R) : ∀ {R'}, Grd E n R' → R.length = R'.length → R = R' := by
  induction h with
  | nil => intro R' _ e; exact (List.eq_nil_of_length_eq_zero (by simpa using e.symm)).symm
  | @snoc R c hR f m ih =>
    intro R' h' e
    cases h' with
    | nil => simp at e
    | @snoc R2 c2 h2 f2 m2 =>
      have : R = R2 := ih h2 (by simpa using e)
      subst this
      rcases Nat.lt_trichotomy c c2 with h | h | h
      · exact absurd f (m2 c h)
      · rw [h]
      · exact absurd f2 (m c2 h)
/-- A row of all: nothing comes behind itself. -/
theorem Grd.acyclic {l : List Ed} {n : Nat} {R : List Nat} (hg : Gr n l) (h : Grd (eB l) n R) (hall : ∀ j, j < n → j ∈ R) : ∀ i, ¬ Rch (eB l) i i := by
  have key : ∀ {i j}, Rch (eB l) i j → ∀ k (hk : k < R.length), R[k] = j → i ∈ R.take k := by
    intro i j hr
    induction hr with
    | one e => intro k hk ek; exact h.ahead k hk _ (by rw [ek]; exact e)
    | @more i j m e hr ih =>
      intro k hk ek
      have hj := ih k hk ek
      obtain ⟨q, hq, eq⟩ := List.getElem_of_mem hj
      have hqk : q < k := by simp at hq; omega
      have hqR : q < R.length := by omega
      have e3 : R[q] = j := by rw [← eq, List.getElem_take]
      have := h.ahead q hqR i (by rw [e3]; exact e)
      exact List.mem_of_mem_take (i := q) (by rw [List.take_take, show min q k = q by omega]; exact this)
  intro i hr
  have hi := hall i (rch_lt hg hr).1
  obtain ⟨k, hk, ek⟩ := List.getElem_of_mem hi
  have := key hr k hk ek
  obtain ⟨q, hq, eq⟩ := List.getElem_of_mem this
  have hqk : q < k := by simp at hq; omega
  have e3 : R[q]'(by omega) = i := by rw [← eq, List.getElem_take]
  have hn := h.nodup
  rw [List.pairwise_iff_getElem] at hn
  exact hn q k (by omega) hk hqk (by rw [e3, ek])
theorem filter_lt {p q : Nat → Bool} : ∀ {l : List Nat}, (∀ x ∈ l, p x = true → q x = true) → ∀ y ∈ l, q y = true → p y = false → (l.filter p).length < (l.filter q).length
  | x :: r, h, y, hy, hq, hp => by
    have hle : ∀ {l : List Nat}, (∀ x ∈ l, p x = true → q x = true) → (l.filter p).length ≤ (l.filter q).length := by
      intro l
      induction l with
      | nil => intro _; exact Nat.le_refl _
      | cons a s ih =>
        intro h
        have := ih fun z hz => h z (List.mem_cons_of_mem _ hz)
        have ha := h a List.mem_cons_self
        cases e1 : p a <;> cases e2 : q a <;> simp [e1, e2] <;> first | omega | (rw [e1] at ha; rw [e2] at ha; simp at ha)
    rcases List.mem_cons.1 hy with rfl | hy
    · have := hle (l := r) fun z hz => h z (List.mem_cons_of_mem _ hz)
      simp [hp, hq]
      omega
    · have ih := filter_lt (l := r) (fun z hz => h z (List.mem_cons_of_mem _ hz)) y hy hq hp
      have hx := h x List.mem_cons_self
      cases e1 : p x <;> cases e2 : q x <;> simp [e1, e2] <;> first | omega | (rw [e1] at hx; rw [e2] at hx; simp at hx)
/-- Where each that is left has one that is left ahead, something comes behind itself. -/
theorem stuck {l : List Ed} {n : Nat} {R : List Nat} (hg : Gr n l) (hs : ∀ c, c < n → c ∉ R → ∃ j, eB l j c = true ∧ j ∉ R) {c : Nat} (hc : c < n) (hcR : c ∉ R) : ∃ i, Rch (eB l) i i := by
  refine Classical.byContradiction fun hno => ?_
  have hac : ∀ i, ¬ Rch (eB l) i i := fun i h => hno ⟨i, h⟩
  have key : ∀ N i, i < n → i ∉ R → ((List.range n).filter fun j => wB l j i).length ≤ N → False := by
    intro N
    induction N with
    | zero =>
      intro i hi hiR hN
      obtain ⟨j, hj, _⟩ := hs i hi hiR
      have hjn := (hg.lt hj).1
      have hm : j ∈ (List.range n).filter fun j => wB l j i := by
        rw [List.mem_filter]
        exact ⟨by simpa using hjn, (wB_iff hg).2 (.one hj)⟩
      have := List.length_pos_of_mem hm
      omega
    | succ N ih =>
      intro i hi hiR hN
      obtain ⟨j, hj, hjR⟩ := hs i hi hiR
      have hjn := (hg.lt hj).1
      refine ih j hjn hjR ?_
      have := filter_lt (p := fun k => wB l k j) (q := fun k => wB l k i) (l := List.range n) (fun x _ hx => (wB_iff hg).2 (((wB_iff hg).1 hx).snoc hj)) j (by simpa using hjn) ((wB_iff hg).2 (.one hj)) (by
        cases e : wB l j j
        · rfl
        · exact absurd ((wB_iff hg).1 e) (hac j))
      omega
  exact key _ c hc hcR (Nat.le_refl _)
theorem bl_erase {p : Nat → Bool} {c : Nat} (hp : p c = true) : ∀ {m}, c < m → (bl p m).length = (bl (fun j => p j && !decide (j = c)) m).length + 1
  | m + 1, h => by
    rw [bl_succ, bl_succ, List.length_append, List.length_append]
    by_cases e : c = m
    · subst e
      have : bl (fun j => p j && !decide (j = c)) c = bl p c := by
        unfold bl
        apply List.filter_congr
        intro j hj
        have : j ≠ c := by simp at hj; omega
        simp [this]
      rw [this, hp]
      simp
    · have ih := bl_erase hp (m := m) (by omega)
      have : (fun j => p j && !decide (j = c)) m = p m := by simp; intro _; omega
      simp only [this]
      omega
/- All edges turned round. -/
def trn (l : List Ed) : List Ed := l.map fun e => ⟨e.t, e.f⟩
theorem eB_trn (l : List Ed) (i j : Nat) : eB (trn l) i j = eB l j i := by
  unfold eB trn
  rw [List.any_map]
  congr 1
  funext e
  rw [Function.comp, decide_eq_decide]
  exact And.comm
theorem rch_trn {l : List Ed} {i j : Nat} (h : Rch (eB l) i j) : Rch (eB (trn l)) j i := by
  induction h with
  | one e => exact .one (by rw [eB_trn]; exact e)
  | more e _ ih => exact ih.snoc (by rw [eB_trn]; exact e)
theorem trn_trn (l : List Ed) : trn (trn l) = l := by
  unfold trn
  rw [List.map_map]
  exact List.map_id l
theorem rch_trn_iff {l : List Ed} {i j : Nat} : Rch (eB (trn l)) j i ↔ Rch (eB l) i j := ⟨fun h => by have := rch_trn h; rwa [trn_trn] at this, rch_trn⟩
end Go.Proofs.YthfpdbogbmccjaaDoor.Gm
