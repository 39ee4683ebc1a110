/- The plain mathematics of crons that the walks of this seat lean on: sets of numbers as bits, the day of a number, the times that match, the least minute of a day and the least day that match. No program is named here. -/
import Derived.Test.YthebcdadoinflaaDoorCal
import Derived.Lib.TrailingZeros
namespace Go.Proofs.YthebcdadoinflaaDoor.Crn
open Cal

/-- The five sets of a cron. -/
structure Cr where
  mi : Nat
  ho : Nat
  dm : Nat
  mo : Nat
  dw : Nat

def okB (c : Cr) : Bool := decide (0 < c.mi ∧ c.mi < 1152921504606846976 ∧ 0 < c.ho ∧ c.ho < 16777216 ∧ 0 < c.dm ∧ c.dm < 4294967296 ∧ c.dm % 2 = 0 ∧ 0 < c.mo ∧ c.mo < 8192 ∧ c.mo % 2 = 0 ∧ 0 < c.dw ∧ c.dw < 128)
theorem ok_open {c : Cr} (h : okB c = true) : 0 < c.mi ∧ c.mi < 1152921504606846976 ∧ 0 < c.ho ∧ c.ho < 16777216 ∧ 0 < c.dm ∧ c.dm < 4294967296 ∧ c.dm % 2 = 0 ∧ 0 < c.mo ∧ c.mo < 8192 ∧ c.mo % 2 = 0 ∧ 0 < c.dw ∧ c.dw < 128 := of_decide_eq_true h

/-- A number's place in a set, as a bit. -/
def hasB (s : Nat) (n : Int) : Bool := s.testBit n.toNat

/-- The year, the month and the day of the month of a day's number, looked for from behind. -/
def yrS (n : Int) : Nat → Int
  | 0 => 1
  | k + 1 => if ys (k + 2) ≤ n then k + 2 else yrS n k
def moS (y r : Int) : Nat → Int
  | 0 => 1
  | k + 1 => if cum y (k + 2) ≤ r then k + 2 else moS y r k
def yr (n : Int) : Int := yrS n 9998
def mth (n : Int) : Int := moS (yr n) (n - ys (yr n)) 11
def dy (n : Int) : Int := n - ys (yr n) - cum (yr n) (mth n) + 1

theorem yrS_spec {n : Int} (h0 : 0 ≤ n) : ∀ k : Nat, n < ys (k + 2) → 1 ≤ yrS n k ∧ yrS n k ≤ k + 1 ∧ ys (yrS n k) ≤ n ∧ n < ys (yrS n k + 1)
  | 0, h => by
    have := ys_one
    have e : ys ((0 : Nat) + 2) = ys (1 + 1) := rfl
    unfold yrS
    exact ⟨by omega, by omega, by omega, by omega⟩
  | k + 1, h => by
    unfold yrS
    split
    · next l =>
      have e : (((k + 1 : Nat) : Int) + 2) = (k : Int) + 2 + 1 := by omega
      rw [e] at h
      exact ⟨by omega, by omega, l, h⟩
    · next l =>
      obtain ⟨a, b, c, d⟩ := yrS_spec h0 k (by omega)
      exact ⟨a, by omega, c, d⟩
theorem moS_spec (y : Int) {r : Int} (h0 : 0 ≤ r) : ∀ k : Nat, r < cum y (k + 2) → 1 ≤ moS y r k ∧ moS y r k ≤ k + 1 ∧ cum y (moS y r k) ≤ r ∧ r < cum y (moS y r k + 1)
  | 0, h => by
    have := cum_one y
    have e : cum y ((0 : Nat) + 2) = cum y (1 + 1) := rfl
    unfold moS
    exact ⟨by omega, by omega, by omega, by omega⟩
  | k + 1, h => by
    unfold moS
    split
    · next l =>
      have e : (((k + 1 : Nat) : Int) + 2) = (k : Int) + 2 + 1 := by omega
      rw [e] at h
      exact ⟨by omega, by omega, l, h⟩
    · next l =>
      obtain ⟨a, b, c, d⟩ := moS_spec y h0 k (by omega)
      exact ⟨a, by omega, c, d⟩
theorem date_of {n : Int} (h0 : 0 ≤ n) (h : n ≤ 3652058) : vld (yr n) (mth n) (dy n) = true ∧ num (yr n) (mth n) (dy n) = n := by
  have e1 : ys ((9998 : Nat) + 2) = ys 10000 := rfl
  have e2 := ys_end
  obtain ⟨a1, a2, a3, a4⟩ := yrS_spec h0 9998 (by omega)
  have s := ys_succ (yrS n 9998)
  have e3 : cum (yrS n 9998) ((11 : Nat) + 2) = cum (yrS n 9998) 13 := rfl
  have e4 := cum_end (yrS n 9998)
  obtain ⟨b1, b2, b3, b4⟩ := moS_spec (yrS n 9998) (r := n - ys (yrS n 9998)) (by omega) 11 (by omega)
  have s' := cum_succ (yrS n 9998) b1 (by omega)
  unfold dy mth yr
  exact ⟨vld_of a1 (by omega) b1 (by omega) (by omega) (by omega), by unfold num; omega⟩
theorem date_eq {n y m d : Int} (hv : vld y m d = true) (hn : num y m d = n) : yr n = y ∧ mth n = m ∧ dy n = d := by
  have b := num_bd hv
  obtain ⟨h1, h2⟩ := date_of (n := n) (by omega) (by omega)
  exact num_inj h1 hv (h2.trans hn.symm)

/-- Does a day of the month, and of the week, fit? -/
def fitB (c : Cr) (d k : Int) : Bool :=
  if c.dm = 4294967294 then hasB c.dw k else if c.dw = 127 then hasB c.dm d else hasB c.dm d || hasB c.dw k
/-- Does a day match? -/
def dmB (c : Cr) (n : Int) : Bool := hasB c.mo (mth n) && fitB c (dy n) ((n + 1) % 7)
/-- Does a minute of a day match? -/
def tmB (c : Cr) (x : Int) : Bool := hasB c.ho (x / 60) && hasB c.mi (x % 60)
/-- Does a time match? -/
def matB (c : Cr) (t : Int) : Bool := tmB c (t % 1440) && dmB c (t / 1440)

theorem dm_at {c : Cr} {n y m d : Int} (hv : vld y m d = true) (hn : num y m d = n) : dmB c n = (hasB c.mo m && fitB c d ((n + 1) % 7)) := by
  obtain ⟨_, e2, e3⟩ := date_eq hv hn
  unfold dmB
  rw [e2, e3]

/-- Four hundred years farther just the same days match. -/
theorem dm_400 (c : Cr) {n : Int} (h0 : 0 ≤ n) (h : n ≤ 3505961) : dmB c (n + 146097) = dmB c n := by
  obtain ⟨hv, hn⟩ := date_of h0 (by omega)
  have hv' := vld_400 hv (by omega)
  have hn' := num_400 (yr n) (mth n) (dy n)
  rw [dm_at (c := c) hv' (hn'.trans (by omega) : _ = n + 146097)]
  unfold dmB
  have e : (n + 146097 + 1) % 7 = (n + 1) % 7 := by omega
  rw [e]
theorem mat_400 (c : Cr) {t : Int} (h0 : 0 ≤ t) (h : t ≤ 5258964959 - 146097 * 1440) : matB c (t + 210379680) = matB c t := by
  unfold matB
  have e1 : (t + 210379680) % 1440 = t % 1440 := by omega
  have e2 : (t + 210379680) / 1440 = t / 1440 + 146097 := by omega
  rw [e1, e2, dm_400 c (by omega) (by omega)]

theorem mat_eq (c : Cr) (t : Int) : matB c t = ((hasB c.ho (t % 1440 / 60) && hasB c.mi (t % 60)) && dmB c (t / 1440)) := by
  unfold matB tmB
  rw [show t % 1440 % 60 = t % 60 by omega]
/-- The days of one month behind a day. -/
theorem dm_in {c : Cr} {n y m d : Int} {i : Nat} (hv : vld y m d = true) (hn : num y m d = n) (hi : (i : Int) ≤ dim y m - d) : n + i ≤ 3652058 ∧ dmB c (n + i) = (hasB c.mo m && fitB c (d + i) ((n + 1 + i) % 7)) := by
  obtain ⟨a1, a2, a3, a4, a5, a6⟩ := vld_open hv
  have hv' : vld y m (d + i) = true := vld_of a1 a2 a3 a4 (by omega) (by omega)
  have hn' : num y m (d + i) = n + i := by unfold num at *; omega
  have b := num_bd hv'
  refine ⟨by omega, ?_⟩
  rw [dm_at hv' hn', show (n + i + 1) % 7 = (n + 1 + i) % 7 by omega]
/-- One day more that does not match. -/
def NoTo (c : Cr) (a b : Int) : Prop := ∀ u, a ≤ u → u < b → dmB c u = false
theorem noTo_start (c : Cr) (a : Int) : NoTo c a (a + (0 : Nat)) := fun u h1 h2 => by omega
theorem noTo_snoc {c : Cr} {a : Int} {k : Nat} (h : NoTo c a (a + k)) (hd : dmB c (a + k) = false) : NoTo c a (a + (k + 1 : Nat)) := fun u h1 h2 => by
  rcases (show u < a + k ∨ u = a + k by omega) with l | l
  · exact h u h1 l
  · subst l; exact hd
theorem noTo_on {c : Cr} {a b d : Int} (h : NoTo c a b) (h' : NoTo c b d) : NoTo c a d := fun u h1 h2 => by
  rcases (show u < b ∨ b ≤ u by omega) with l | l
  · exact h u h1 l
  · exact h' u l h2
theorem noTo_month {c : Cr} {n y m d : Int} (hv : vld y m d = true) (hn : num y m d = n) (hm : hasB c.mo m = false) : NoTo c n (n + (dim y m - d + 1)) := fun u h1 h2 => by
  have := (dm_in (c := c) (i := (u - n).toNat) hv hn (by omega)).2
  rw [show n + ((u - n).toNat : Int) = u by omega, hm] at this
  exact this

/-- The lowest bit. -/
theorem ctz_ex {x : Nat} (h0 : x ≠ 0) (h : x < 18446744073709551616) : ∃ m, x = 2 ^ Lib.ctz 64 x * (2 * m + 1) ∧ Lib.ctz 64 x < 64 := by
  unfold Lib.ctz
  rw [if_neg h0]
  exact Lib.ctzFrom_spec 64 x (by omega) h
theorem ctz_lt {x : Nat} (h0 : x ≠ 0) (h : x < 18446744073709551616) : Lib.ctz 64 x < 64 := by
  obtain ⟨_, _, h2⟩ := ctz_ex h0 h
  exact h2
theorem ctz_bit {x : Nat} (h0 : x ≠ 0) (h : x < 18446744073709551616) : x.testBit (Lib.ctz 64 x) = true := by
  obtain ⟨m, h1, _⟩ := ctz_ex h0 h
  generalize Lib.ctz 64 x = k at h1
  subst h1
  rw [Nat.testBit_two_pow_mul]
  simp
theorem ctz_low {x j : Nat} (h0 : x ≠ 0) (h : x < 18446744073709551616) (hj : j < Lib.ctz 64 x) : x.testBit j = false := by
  obtain ⟨m, h1, _⟩ := ctz_ex h0 h
  generalize Lib.ctz 64 x = k at h1 hj
  subst h1
  rw [Nat.testBit_two_pow_mul]
  have : ¬ k ≤ j := by omega
  simp [this]
theorem bit_lt {x j n : Nat} (h : x < 2 ^ n) (hb : x.testBit j = true) : j < n := by
  rcases Nat.lt_or_ge j n with l | l
  · exact l
  · have := Nat.testBit_lt_two_pow (Nat.lt_of_lt_of_le h (Nat.pow_le_pow_right (by omega) l))
    rw [this] at hb
    cases hb
theorem bit_div (s m j : Nat) : (s / 2 ^ m).testBit j = s.testBit (m + j) := by
  rw [Nat.testBit_div_two_pow, Nat.add_comm]
theorem bit_div_zero {s m j : Nat} (h : s / 2 ^ m = 0) (hj : m ≤ j) : s.testBit j = false := by
  have := bit_div s m (j - m)
  rw [h, show m + (j - m) = j by omega] at this
  rw [← this]
  simp
theorem bit_zero {s j : Nat} (h : ¬ s.testBit j = true) : s.testBit j = false := by simpa using h

/-- The least minute of a day, from one on, that matches. -/
def LeastM (c : Cr) (m x : Int) : Prop := m ≤ x ∧ x < 1440 ∧ tmB c x = true ∧ ∀ u, m ≤ u → u < x → tmB c u = false
def NoM (c : Cr) (m : Int) : Prop := ∀ u, m ≤ u → u < 1440 → tmB c u = false

theorem tm_at {c : Cr} {x h m : Int} (h1 : x = h * 60 + m) (h2 : 0 ≤ m) (h3 : m < 60) : tmB c x = (hasB c.ho h && hasB c.mi m) := by
  unfold tmB
  rw [show x / 60 = h by omega, show x % 60 = m by omega]
theorem div_lt' {s : Nat} (m : Nat) {b : Nat} (h : s < b) : s / 2 ^ m < b := Nat.lt_of_le_of_lt (Nat.div_le_self _ _) h
theorem least_here {c : Cr} (hc : okB c = true) {h m : Nat} (hh : h < 24) (hm : m < 60) (hb : hasB c.ho h = true) (hn : c.mi / 2 ^ m ≠ 0) :
    LeastM c (h * 60 + m) (h * 60 + m + Lib.ctz 64 (c.mi / 2 ^ m)) := by
  obtain ⟨_, o, _⟩ := ok_open hc
  have l := div_lt' m o
  have b := ctz_bit hn (by omega)
  have lo := fun j => ctz_low (j := j) hn (by omega)
  rw [bit_div] at b
  have lt := bit_lt (n := 60) o b
  generalize Lib.ctz 64 (c.mi / 2 ^ m) = k at *
  refine ⟨by omega, by omega, ?_, ?_⟩
  · rw [tm_at (h := h) (m := m + k) (by omega) (by omega) (by omega), hb]
    unfold hasB
    rw [show ((m : Int) + k).toNat = m + k by omega, b]
    rfl
  · intro u h1 h2
    rw [tm_at (h := h) (m := u - h * 60) (by omega) (by omega) (by omega)]
    have := lo (u - h * 60 - m).toNat (by omega)
    rw [bit_div, show m + (u - h * 60 - m).toNat = (u - (h : Int) * 60).toNat by omega] at this
    unfold hasB
    rw [this]
    simp
theorem hour_no {c : Cr} {h m : Nat} (hm : m < 60) (hn : hasB c.ho h = false ∨ c.mi / 2 ^ m = 0) {u : Int} (h1 : (h : Int) * 60 + m ≤ u) (h2 : u < (h + 1) * 60) : tmB c u = false := by
  rw [tm_at (h := h) (m := u - h * 60) (by omega) (by omega) (by omega)]
  rcases hn with e | e
  · rw [e]; rfl
  · have := bit_div_zero e (j := (u - (h : Int) * 60).toNat) (by omega)
    unfold hasB
    rw [this]
    simp
theorem none_later {c : Cr} {h m : Nat} (hm : m < 60) (hn : hasB c.ho h = false ∨ c.mi / 2 ^ m = 0) (hz : c.ho / 2 ^ (h + 1) = 0) : NoM c (h * 60 + m) := by
  intro u h1 h2
  rcases Int.lt_or_le u ((h + 1) * 60) with l | l
  · exact hour_no hm hn h1 l
  · rw [tm_at (h := u / 60) (m := u % 60) (by omega) (by omega) (by omega)]
    have := bit_div_zero hz (j := (u / 60).toNat) (by omega)
    unfold hasB
    rw [this]
    simp
theorem least_later {c : Cr} (hc : okB c = true) {h m : Nat} (hm : m < 60) (hn : hasB c.ho h = false ∨ c.mi / 2 ^ m = 0) (hz : c.ho / 2 ^ (h + 1) ≠ 0) :
    LeastM c (h * 60 + m) ((h + 1 + Lib.ctz 64 (c.ho / 2 ^ (h + 1))) * 60 + Lib.ctz 64 c.mi) := by
  obtain ⟨o0, o1, _, o2, _⟩ := ok_open hc
  have l := div_lt' (h + 1) o2
  have b := ctz_bit hz (by omega)
  have lo := fun j => ctz_low (j := j) hz (by omega)
  have b' := ctz_bit (x := c.mi) (by omega) (by omega)
  have lo' := fun j => ctz_low (x := c.mi) (j := j) (by omega) (by omega)
  rw [bit_div] at b
  have lt := bit_lt (n := 24) o2 b
  have lt' := bit_lt (n := 60) o1 b'
  generalize Lib.ctz 64 (c.ho / 2 ^ (h + 1)) = k at *
  generalize Lib.ctz 64 c.mi = k' at *
  refine ⟨by omega, by omega, ?_, ?_⟩
  · rw [tm_at (h := h + 1 + k) (m := k') rfl (by omega) (by omega)]
    unfold hasB
    rw [show ((h : Int) + 1 + k).toNat = h + 1 + k by omega, b, show ((k' : Int)).toNat = k' by omega, b']
    rfl
  · intro u h1 h2
    rcases Int.lt_or_le u ((h + 1) * 60) with l | l
    · exact hour_no hm hn h1 l
    · rw [tm_at (h := u / 60) (m := u % 60) (by omega) (by omega) (by omega)]
      unfold hasB
      rcases Int.lt_or_le (u / 60) (h + 1 + k) with l2 | l2
      · have := lo ((u / 60).toNat - (h + 1)) (by omega)
        rw [bit_div, show h + 1 + ((u / 60).toNat - (h + 1)) = (u / 60).toNat by omega] at this
        rw [this]; rfl
      · have := lo' (u % 60).toNat (by omega)
        rw [this]; simp
theorem least_first {c : Cr} (hc : okB c = true) : LeastM c 0 ((Lib.ctz 64 c.ho : Int) * 60 + Lib.ctz 64 c.mi) := by
  obtain ⟨o0, o1, o3, o2, _⟩ := ok_open hc
  have b := ctz_bit (x := c.ho) (by omega) (by omega)
  have lo := fun j => ctz_low (x := c.ho) (j := j) (by omega) (by omega)
  have b' := ctz_bit (x := c.mi) (by omega) (by omega)
  have lo' := fun j => ctz_low (x := c.mi) (j := j) (by omega) (by omega)
  have lt := bit_lt (n := 24) o2 b
  have lt' := bit_lt (n := 60) o1 b'
  generalize Lib.ctz 64 c.ho = k at *
  generalize Lib.ctz 64 c.mi = k' at *
  refine ⟨by omega, by omega, ?_, ?_⟩
  · rw [tm_at (h := k) (m := k') rfl (by omega) (by omega)]
    unfold hasB
    rw [show ((k : Int)).toNat = k by omega, b, show ((k' : Int)).toNat = k' by omega, b']
    rfl
  · intro u h1 h2
    rw [tm_at (h := u / 60) (m := u % 60) (by omega) (by omega) (by omega)]
    unfold hasB
    rcases Int.lt_or_le (u / 60) k with l2 | l2
    · have := lo (u / 60).toNat (by omega)
      rw [this]; rfl
    · have := lo' (u % 60).toNat (by omega)
      rw [this]; simp

/-- The least day, from one on, that matches. -/
def LeastD (c : Cr) (a x : Int) : Prop := a ≤ x ∧ x ≤ 3652058 ∧ dmB c x = true ∧ ∀ u, a ≤ u → u < x → dmB c u = false
def NoD (c : Cr) (a : Int) : Prop := ∀ u, a ≤ u → u ≤ 3652058 → dmB c u = false

theorem leastD_of {c : Cr} {a n : Int} {k : Nat} (h : NoTo c a n) (h' : NoTo c n (n + k)) (ha : a ≤ n) (hk : n + k ≤ 3652058) (hd : dmB c (n + k) = true) : LeastD c a (n + k) :=
  ⟨by omega, hk, hd, noTo_on h h'⟩
/-- What is not found within four hundred years is not there. -/
theorem none_400 {c : Cr} {a : Int} (h0 : 0 ≤ a) (h : ∀ u, a ≤ u → u ≤ 3652058 → u ≤ a + 146097 → dmB c u = false) : NoD c a := by
  have key : ∀ (k : Nat) (u : Int), a ≤ u → u ≤ 3652058 → u ≤ a + 146097 * k → dmB c u = false := by
    intro k
    induction k with
    | zero => intro u h1 h2 h3; exact h u h1 h2 (by omega)
    | succ k ih =>
      intro u h1 h2 h3
      rcases Int.lt_or_le u (a + 146097) with l | l
      · exact h u h1 h2 (by omega)
      · have := dm_400 c (n := u - 146097) (by omega) (by omega)
        rw [show u - 146097 + 146097 = u by omega] at this
        rw [this]
        exact ih _ (by omega) (by omega) (by omega)
  intro u h1 h2
  exact key 25 u h1 h2 (by omega)

theorem noD_far {c : Cr} {a n : Int} (h0 : 0 ≤ a) (h : NoTo c a n) (hn : a + 146097 < n) : NoD c a := none_400 h0 fun u h1 _ h3 => h u h1 (by omega)
theorem noD_near {c : Cr} {a n : Int} (h : NoTo c a n) (hn : 3652058 < n) : NoD c a := fun u h1 h2 => h u h1 (by omega)

/-- The least time above one that matches. -/
def NextIs (c : Cr) (t n : Int) : Prop := t < n ∧ n ≤ 5258964959 ∧ matB c n = true ∧ ∀ u, t < u → u < n → matB c u = false
def NoNext (c : Cr) (t : Int) : Prop := ∀ u, t < u → u ≤ 5258964959 → matB c u = false

theorem next_eq {c : Cr} {t n n' : Int} (h : NextIs c t n) (h' : NextIs c t n') : n = n' := by
  obtain ⟨a1, a2, a3, a4⟩ := h
  obtain ⟨b1, b2, b3, b4⟩ := h'
  rcases Int.lt_trichotomy n n' with l | l | l
  · have := b4 n a1 l; rw [a3] at this; cases this
  · exact l
  · have := a4 n' b1 l; rw [b3] at this; cases this
theorem next_no {c : Cr} {t n : Int} (h : NextIs c t n) (h' : NoNext c t) : False := by
  have := h' n h.1 h.2.1
  rw [h.2.2.1] at this
  cases this
theorem next_to (c : Cr) (t : Int) : ∀ k : Nat, t + k ≤ 5258964959 → (∃ n, NextIs c t n) ∨ ∀ u, t < u → u ≤ t + k → matB c u = false
  | 0, _ => Or.inr fun u h1 h2 => by omega
  | k + 1, h => by
    rcases next_to c t k (by omega) with e | e
    · exact Or.inl e
    · by_cases hm : matB c (t + k + 1) = true
      · exact Or.inl ⟨t + k + 1, by omega, by omega, hm, fun u h1 h2 => e u h1 (by omega)⟩
      · refine Or.inr fun u h1 h2 => ?_
        rcases (show u ≤ t + k ∨ u = t + k + 1 by omega) with l | l
        · exact e u h1 l
        · rw [l]; simpa using hm
/-- There is a next time, or there is none. -/
theorem next_or (c : Cr) {t : Int} (h : t ≤ 5258964959) : (∃ n, NextIs c t n) ∨ NoNext c t := by
  rcases next_to c t (5258964959 - t).toNat (by omega) with e | e
  · exact Or.inl e
  · exact Or.inr fun u h1 h2 => e u h1 (by omega)
theorem mat_false_day {c : Cr} {u : Int} (h : dmB c (u / 1440) = false) : matB c u = false := by unfold matB; rw [h]; simp
theorem mat_false_min {c : Cr} {u : Int} (h : tmB c (u % 1440) = false) : matB c u = false := by unfold matB; rw [h]; simp
theorem one_bit {k : Int} (h : 0 < k) : hasB 1 k = false := by
  unfold hasB
  rw [show (1 : Nat) = 2 ^ 0 from rfl, Nat.testBit_two_pow]
  simp
  omega
/-- The cron of the first minute of each day: its next time behind the first minute of all. -/
theorem next_fixed : NextIs ⟨1, 1, 4294967294, 8190, 127⟩ 0 1440 := by
  refine ⟨by omega, by omega, ?_, ?_⟩
  · have hd := dm_at (c := ⟨1, 1, 4294967294, 8190, 127⟩) (n := 1) (y := 1) (m := 1) (d := 2) (by decide) (by decide)
    have e : dmB ⟨1, 1, 4294967294, 8190, 127⟩ 1 = true := by rw [hd]; decide
    rw [mat_eq, show (1440 : Int) / 1440 = 1 by omega, e]
    decide
  · intro u h1 h2
    refine mat_false_min ?_
    rw [show u % 1440 = u by omega]
    unfold tmB
    rcases (show 0 < u / 60 ∨ 0 < u % 60 by omega) with l | l
    · rw [one_bit l]; rfl
    · rw [one_bit l]; simp
theorem ok_fixed : okB ⟨1, 1, 4294967294, 8190, 127⟩ = true := by decide
theorem next_today {c : Cr} {t x : Int} (h0 : -1 ≤ t) (h1 : (t + 1) / 1440 ≤ 3652058) (hd : dmB c ((t + 1) / 1440) = true) (hm : LeastM c ((t + 1) % 1440) x) : NextIs c t ((t + 1) / 1440 * 1440 + x) := by
  obtain ⟨a1, a2, a3, a4⟩ := hm
  refine ⟨by omega, by omega, ?_, ?_⟩
  · unfold matB
    rw [show ((t + 1) / 1440 * 1440 + x) % 1440 = x by omega, show ((t + 1) / 1440 * 1440 + x) / 1440 = (t + 1) / 1440 by omega, a3, hd]
    rfl
  · intro u h3 h4
    exact mat_false_min (a4 _ (by omega) (by omega))
/-- No time matches on the rest of that day. -/
def RestNo (c : Cr) (t : Int) : Prop := ∀ u, t < u → u < (t + 1) / 1440 * 1440 + 1440 → matB c u = false
theorem rest_min {c : Cr} {t : Int} (hm : NoM c ((t + 1) % 1440)) : RestNo c t := by
  intro u h1 h2
  exact mat_false_min (hm _ (by omega) (by omega))
theorem rest_day {c : Cr} {t : Int} (hd : dmB c ((t + 1) / 1440) = false) : RestNo c t := by
  intro u h1 h2
  exact mat_false_day (by rw [show u / 1440 = (t + 1) / 1440 by omega]; exact hd)
theorem next_later {c : Cr} {t d x : Int} (hr : RestNo c t) (hd : LeastD c ((t + 1) / 1440 + 1) d) (hm : LeastM c 0 x) : NextIs c t (d * 1440 + x) := by
  obtain ⟨a1, a2, a3, a4⟩ := hm
  obtain ⟨b1, b2, b3, b4⟩ := hd
  refine ⟨by omega, by omega, ?_, ?_⟩
  · unfold matB
    rw [show (d * 1440 + x) % 1440 = x by omega, show (d * 1440 + x) / 1440 = d by omega, a3, b3]
    rfl
  · intro u h3 h4
    rcases Int.lt_or_le u ((t + 1) / 1440 * 1440 + 1440) with l | l
    · exact hr u h3 l
    · rcases Int.lt_or_le (u / 1440) d with l2 | l2
      · exact mat_false_day (b4 _ (by omega) l2)
      · exact mat_false_min (a4 _ (by omega) (by omega))
theorem next_never {c : Cr} {t : Int} (h0 : -1 ≤ t) (hr : RestNo c t) (hd : NoD c ((t + 1) / 1440 + 1)) : NoNext c t := by
  intro u h1 h2
  rcases Int.lt_or_le u ((t + 1) / 1440 * 1440 + 1440) with l | l
  · exact hr u h1 l
  · exact mat_false_day (hd _ (by omega) (by omega))
end Go.Proofs.YthebcdadoinflaaDoor.Crn
