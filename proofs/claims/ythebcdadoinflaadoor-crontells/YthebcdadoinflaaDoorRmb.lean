/- The plain mathematics that the reference of package cron leans on: full sets, sets whose numbers are told by their bits, and the search from day to day. No program is named here. -/
import Derived.Test.YthebcdadoinflaaDoorCrn
namespace Go.Proofs.YthebcdadoinflaaDoor.Crn
open Cal

theorem bits_lt {x n : Nat} (hx : x < 18446744073709551616) (h : ∀ j, j < 64 → x.testBit j = true → j < n) : x < 2 ^ n := by
  apply Nat.lt_pow_two_of_testBit
  intro i hi
  by_cases h64 : i < 64
  · by_cases hb : x.testBit i = true
    · have := h i h64 hb; omega
    · simpa using hb
  · exact Nat.testBit_lt_two_pow (Nat.lt_of_lt_of_le hx (Nat.pow_le_pow_right (n := 2) (by omega) (show 64 ≤ i by omega)))
theorem even_bit {x : Nat} : x % 2 = 0 ↔ x.testBit 0 = false := by
  rw [Nat.testBit_zero]
  simp
/-- All numbers from one to another are in a set. -/
def Full (s : Nat) (lo hi : Int) : Prop := ∀ n, lo ≤ n → n ≤ hi → hasB s n = true
theorem full_eq {s all lo hi : Nat} (hall : ∀ i, i < 64 → all.testBit i = decide (lo ≤ i ∧ i ≤ hi)) (hs : s < 18446744073709551616) (ha : all < 18446744073709551616) (hh : hi < 64) (hsub : ∀ i, i < 64 → s.testBit i = true → lo ≤ i ∧ i ≤ hi) : Full s lo hi ↔ s = all := by
  constructor
  · intro h
    apply Nat.eq_of_testBit_eq
    intro i
    by_cases h64 : i < 64
    · rw [hall i h64]
      by_cases hb : lo ≤ i ∧ i ≤ hi
      · have := h i (by omega) (by omega)
        unfold hasB at this
        rw [show ((i : Int)).toNat = i by omega] at this
        rw [this, decide_eq_true hb]
      · rw [decide_eq_false hb]
        by_cases hc : s.testBit i = true
        · exact absurd (hsub i h64 hc) hb
        · simpa using hc
    · have p : (2 : Nat) ^ 64 ≤ 2 ^ i := Nat.pow_le_pow_right (by omega) (by omega)
      rw [Nat.testBit_lt_two_pow (Nat.lt_of_lt_of_le hs p), Nat.testBit_lt_two_pow (Nat.lt_of_lt_of_le ha p)]
  · intro e n h1 h2
    subst e
    unfold hasB
    rw [hall n.toNat (by omega)]
    simp
    omega
theorem full_dm {c : Cr} (hc : okB c = true) : Full c.dm 1 31 ↔ c.dm = 4294967294 := by
  obtain ⟨_, _, _, _, a, b, e, _⟩ := ok_open hc
  refine full_eq (lo := 1) (hi := 31) (by decide) (by omega) (by omega) (by omega) ?_
  intro i hi hb
  have h1 := bit_lt (n := 32) b hb
  have h0 : i ≠ 0 := by
    intro e0
    subst e0
    rw [even_bit.1 e] at hb
    cases hb
  omega
theorem full_dw {c : Cr} (hc : okB c = true) : Full c.dw 0 6 ↔ c.dw = 127 := by
  obtain ⟨_, _, _, _, _, _, _, _, _, _, a, b⟩ := ok_open hc
  refine full_eq (lo := 0) (hi := 6) (by decide) (by omega) (by omega) (by omega) ?_
  intro i hi hb
  have h1 := bit_lt (n := 7) b hb
  omega

/-- Where the search from day to day stands: at the time right behind, or at the first minute of a day. -/
def Pst (c : Cr) (t0 t : Int) (k : Int) : Prop :=
  (k = 0 ∧ t = t0 + 1) ∨ (1 ≤ k ∧ t = ((t0 + 1) / 1440 + k) * 1440 ∧ RestNo c t0 ∧ NoTo c ((t0 + 1) / 1440 + 1) ((t0 + 1) / 1440 + k))
theorem pst_start (c : Cr) (t0 : Int) : Pst c t0 (t0 + 1) 0 := Or.inl ⟨rfl, rfl⟩
theorem pst_day {c : Cr} {t0 t : Int} {k : Int} (h : Pst c t0 t k) : t / 1440 = (t0 + 1) / 1440 + k := by
  rcases h with ⟨rfl, rfl⟩ | ⟨_, rfl, _, _⟩ <;> omega
theorem pst_ge {c : Cr} {t0 t : Int} {k : Int} (h : Pst c t0 t k) : t0 < t := by
  rcases h with ⟨rfl, rfl⟩ | ⟨_, rfl, _, _⟩ <;> omega
theorem pst_no {c : Cr} {t0 t : Int} {k : Int} (h : Pst c t0 t k) (hd : dmB c (t / 1440) = false) : Pst c t0 (t / 1440 * 1440 + 1440) (k + 1) := by
  have e := pst_day h
  rcases h with ⟨rfl, rfl⟩ | ⟨h1, h2, h3, h4⟩
  · exact Or.inr ⟨by omega, by omega, rest_day hd, fun u a b => by omega⟩
  · refine Or.inr ⟨by omega, by omega, h3, fun u a b => ?_⟩
    rcases (show u < (t0 + 1) / 1440 + k ∨ u = (t0 + 1) / 1440 + k by omega) with l | l
    · exact h4 u a l
    · rw [l, ← e]; exact hd
theorem pst_rest {c : Cr} (hc : okB c = true) {t0 t : Int} {k : Int} (h : Pst c t0 t k) (hd : NoM c (t % 1440)) : Pst c t0 (t / 1440 * 1440 + 1440) (k + 1) := by
  rcases h with ⟨rfl, rfl⟩ | ⟨h1, h2, h3, h4⟩
  · exact Or.inr ⟨by omega, by omega, rest_min hd, fun u a b => by omega⟩
  · exfalso
    obtain ⟨a, b, e, _⟩ := least_first hc
    have := hd _ (by omega) b
    rw [e] at this
    cases this
theorem pst_found {c : Cr} {t0 t x : Int} {k : Int} (h : Pst c t0 t k) (h1 : -1 ≤ t0) (ht : t ≤ 5258964959) (hd : dmB c (t / 1440) = true) (hx : LeastM c (t % 1440) (x % 1440)) (h2 : t ≤ x) (h3 : x < t / 1440 * 1440 + 1440) : NextIs c t0 x := by
  have e := pst_day h
  rcases h with ⟨rfl, rfl⟩ | ⟨k1, k2, k3, k4⟩
  · have := next_today h1 (by omega) hd hx
    rw [show (t0 + 1) / 1440 * 1440 + x % 1440 = x by omega] at this
    exact this
  · have hx' : LeastM c 0 (x % 1440) := by rw [show t % 1440 = 0 by omega] at hx; exact hx
    have hl : LeastD c ((t0 + 1) / 1440 + 1) (t / 1440) := ⟨by omega, by omega, hd, fun u a b => k4 u a (by omega)⟩
    have := next_later k3 hl hx'
    rw [show t / 1440 * 1440 + x % 1440 = x by omega] at this
    exact this
theorem pst_end {c : Cr} {t0 t : Int} {k : Int} (h : Pst c t0 t k) (h1 : -1 ≤ t0) (he : 5258964959 < t ∨ 150000 ≤ k) : NoNext c t0 := by
  rcases h with ⟨rfl, rfl⟩ | ⟨k1, k2, k3, k4⟩
  · intro u a b
    omega
  · refine next_never h1 k3 ?_
    rcases he with l | l
    · exact fun u a b => k4 u a (by omega)
    · exact none_400 (by omega) fun u a _ b => k4 u a (by omega)
/-- No minute between two times of one day matches. -/
def NoMin (c : Cr) (t x : Int) : Prop := ∀ u, t ≤ u → u < x → tmB c (u % 1440) = false
theorem noMin_start (c : Cr) (t : Int) : NoMin c t t := fun u a b => by omega
theorem noMin_snoc {c : Cr} {t x : Int} (h : NoMin c t x) (hd : tmB c (x % 1440) = false) : NoMin c t (x + 1) := fun u a b => by
  rcases (show u < x ∨ u = x by omega) with l | l
  · exact h u a l
  · rw [l]; exact hd
theorem noMin_least {c : Cr} {t x : Int} (h : NoMin c t x) (hd : tmB c (x % 1440) = true) (h2 : t ≤ x) (h3 : x < t / 1440 * 1440 + 1440) : LeastM c (t % 1440) (x % 1440) := by
  refine ⟨by omega, by omega, hd, fun u a b => ?_⟩
  have := h (t / 1440 * 1440 + u) (by omega) (by omega)
  rw [show (t / 1440 * 1440 + u) % 1440 = u by omega] at this
  exact this
theorem noMin_none {c : Cr} {t : Int} (h : NoMin c t (t / 1440 * 1440 + 1440)) : NoM c (t % 1440) := fun u a b => by
  have := h (t / 1440 * 1440 + u) (by omega) (by omega)
  rw [show (t / 1440 * 1440 + u) % 1440 = u by omega] at this
  exact this
theorem tm_eq (c : Cr) (x : Int) : tmB c (x % 1440) = (hasB c.mi (x % 60) && hasB c.ho (x % 1440 / 60)) := by
  unfold tmB
  rw [show x % 1440 % 60 = x % 60 by omega, Bool.and_comm]

/-- The sets, and from where to where their numbers are. -/
def setI (c : Cr) : Nat → Nat | 0 => c.mi | 1 => c.ho | 2 => c.dm | 3 => c.mo | _ => c.dw
def loI : Nat → Nat | 0 => 0 | 1 => 0 | 2 => 1 | 3 => 1 | _ => 0
def hiI : Nat → Nat | 0 => 59 | 1 => 23 | 2 => 31 | 3 => 12 | _ => 6
def fineI (c : Cr) (i : Nat) : Prop := setI c i ≠ 0 ∧ ∀ j, j < 64 → (setI c i).testBit j = true → loI i ≤ j ∧ j ≤ hiI i
theorem some_bit {x : Nat} (hx : x < 18446744073709551616) (h0 : x ≠ 0) : ∃ j, j < 64 ∧ x.testBit j = true := ⟨_, ctz_lt h0 hx, ctz_bit h0 hx⟩
theorem in_low {x hi : Nat} (hx : x < 18446744073709551616) : (∀ j, j < 64 → x.testBit j = true → 0 ≤ j ∧ j ≤ hi) ↔ x < 2 ^ (hi + 1) := by
  constructor
  · intro h
    exact bits_lt hx fun j a b => by have := h j a b; omega
  · intro h j _ b
    have := bit_lt h b
    omega
theorem in_even {x hi : Nat} (hx : x < 18446744073709551616) : (∀ j, j < 64 → x.testBit j = true → 1 ≤ j ∧ j ≤ hi) ↔ (x < 2 ^ (hi + 1) ∧ x % 2 = 0) := by
  constructor
  · intro h
    refine ⟨bits_lt hx fun j a b => by have := h j a b; omega, ?_⟩
    rw [even_bit]
    by_cases e : x.testBit 0 = true
    · have := h 0 (by omega) e; omega
    · simpa using e
  · intro h j _ b
    have := bit_lt h.1 b
    have h0 : j ≠ 0 := by
      intro e0
      subst e0
      rw [even_bit.1 h.2] at b
      cases b
    omega
theorem ok_fine {c : Cr} (h0 : c.mi < 18446744073709551616) (h1 : c.ho < 18446744073709551616) (h2 : c.dm < 18446744073709551616) (h3 : c.mo < 18446744073709551616) (h4 : c.dw < 18446744073709551616) : okB c = true ↔ ∀ i, i < 5 → fineI c i := by
  have f0 := in_low (hi := 59) h0
  have f1 := in_low (hi := 23) h1
  have f2 := in_even (hi := 31) h2
  have f3 := in_even (hi := 12) h3
  have f4 := in_low (hi := 6) h4
  constructor
  · intro ho i hi
    obtain ⟨a1, a2, b1, b2, d1, d2, d3, e1, e2, e3, g1, g2⟩ := ok_open ho
    rcases (show i = 0 ∨ i = 1 ∨ i = 2 ∨ i = 3 ∨ i = 4 by omega) with e | e | e | e | e <;> subst e
    · exact ⟨show c.mi ≠ 0 by omega, f0.2 a2⟩
    · exact ⟨show c.ho ≠ 0 by omega, f1.2 b2⟩
    · exact ⟨show c.dm ≠ 0 by omega, f2.2 ⟨d2, d3⟩⟩
    · exact ⟨show c.mo ≠ 0 by omega, f3.2 ⟨e2, e3⟩⟩
    · exact ⟨show c.dw ≠ 0 by omega, f4.2 g2⟩
  · intro ha
    obtain ⟨n0, k0⟩ := ha 0 (by omega)
    obtain ⟨n1, k1⟩ := ha 1 (by omega)
    obtain ⟨n2, k2⟩ := ha 2 (by omega)
    obtain ⟨n3, k3⟩ := ha 3 (by omega)
    obtain ⟨n4, k4⟩ := ha 4 (by omega)
    have a2 := f0.1 k0
    have b2 := f1.1 k1
    have d2 := f2.1 k2
    have e2 := f3.1 k3
    have g2 := f4.1 k4
    simp only [setI] at n0 n1 n2 n3 n4
    exact decide_eq_true ⟨by omega, a2, by omega, b2, by omega, d2.1, d2.2, by omega, e2.1, e2.2, by omega, g2⟩
end Go.Proofs.YthebcdadoinflaaDoor.Crn
