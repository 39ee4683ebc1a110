/- The plain mathematics of the civil calendar that the walks of this seat lean on: long years, lengths of months, the first day of a year and of a month, and that a day's number and its date determine each other. No program is named here. -/
namespace Go.Proofs.YtmhidmocmolgfaaDoor.Cal

def lp (y : Int) : Int := if (y % 4 = 0 ∧ y % 100 ≠ 0) ∨ y % 400 = 0 then 1 else 0
def longB (y : Int) : Bool := decide ((y % 4 = 0 ∧ y % 100 ≠ 0) ∨ y % 400 = 0)
def base (m : Int) : Int := if m = 2 then 28 else if m = 4 ∨ m = 6 ∨ m = 9 ∨ m = 11 then 30 else 31
def dim (y m : Int) : Int := if m = 2 then 28 + lp y else base m
def ys (y : Int) : Int := (y - 1) * 365 + (y - 1) / 4 - (y - 1) / 100 + (y - 1) / 400
def low (m : Int) : Int := if m ≤ 1 then 0 else if m = 2 then 31 else if m = 3 then 59 else if m = 4 then 90 else if m = 5 then 120 else if m = 6 then 151 else if m = 7 then 181 else if m = 8 then 212 else if m = 9 then 243 else if m = 10 then 273 else if m = 11 then 304 else if m = 12 then 334 else 365
def cum (y m : Int) : Int := if 2 < m then low m + lp y else low m
def num (y m d : Int) : Int := ys y + cum y m + d - 1
def yearB (y : Int) : Bool := decide (1 ≤ y ∧ y ≤ 9999)
def dayB (n : Int) : Bool := decide (0 ≤ n ∧ n ≤ 3652058)
def gym (y m : Int) : Bool := decide (1 ≤ y ∧ y ≤ 9999 ∧ 1 ≤ m ∧ m ≤ 12)
def vld (y m d : Int) : Bool := decide (1 ≤ y ∧ y ≤ 9999 ∧ 1 ≤ m ∧ m ≤ 12 ∧ 1 ≤ d ∧ d ≤ dim y m)

theorem lp_01 (y : Int) : 0 ≤ lp y ∧ lp y ≤ 1 := by unfold lp; split <;> omega
theorem lp_true {y : Int} (h : longB y = true) : lp y = 1 := by unfold lp; rw [if_pos (of_decide_eq_true h)]
theorem lp_false {y : Int} (h : longB y = false) : lp y = 0 := by unfold lp; rw [if_neg (of_decide_eq_false h)]
theorem base_bd (m : Int) : 28 ≤ base m ∧ base m ≤ 31 := by unfold base; split <;> (try split) <;> omega
theorem dim_bd (y m : Int) : 28 ≤ dim y m ∧ dim y m ≤ 31 := by
  have := lp_01 y; have := base_bd m; unfold dim; split <;> omega
theorem ys_succ (y : Int) : ys (y + 1) = ys y + 365 + lp y := by
  unfold ys lp; split <;> omega
theorem ys_mono {a b : Int} (h : a ≤ b) : ys a ≤ ys b := by unfold ys; omega
theorem ys_one : ys 1 = 0 := by decide
theorem ys_end : ys 10000 = 3652059 := by decide
theorem ys_bd {y : Int} (h1 : 1 ≤ y) (h2 : y ≤ 10000) : 0 ≤ ys y ∧ ys y ≤ 3652059 := by unfold ys; omega
theorem ys_guess {n : Int} (h : 0 ≤ n) : ys (n / 366 + 1) ≤ n := by unfold ys; omega
theorem ys_lt {a b : Int} (h : a < b) : ys a + 365 + lp a ≤ ys b := by
  have h1 := ys_succ a
  have h2 : ys (a + 1) ≤ ys b := ys_mono (by omega)
  omega
theorem months {m : Int} (h1 : 1 ≤ m) (h2 : m ≤ 12) : m = 1 ∨ m = 2 ∨ m = 3 ∨ m = 4 ∨ m = 5 ∨ m = 6 ∨ m = 7 ∨ m = 8 ∨ m = 9 ∨ m = 10 ∨ m = 11 ∨ m = 12 := by omega
theorem cum_one (y : Int) : cum y 1 = 0 := by simp [cum, low]
theorem cum_end (y : Int) : cum y 13 = 365 + lp y := by simp [cum, low]
theorem cum_succ (y : Int) {m : Int} (h1 : 1 ≤ m) (h2 : m ≤ 12) : cum y (m + 1) = cum y m + dim y m := by
  rcases months h1 h2 with h | h | h | h | h | h | h | h | h | h | h | h <;> subst h <;> simp [cum, low, dim, base] <;> omega
theorem cum_bd (y : Int) (m : Int) : 0 ≤ cum y m ∧ cum y m ≤ 366 := by
  have := lp_01 y
  have : 0 ≤ low m ∧ low m ≤ 365 := by unfold low; repeat' split
                                       all_goals omega
  unfold cum; split <;> omega
theorem cum_step (y : Int) {m k : Int} (h1 : 1 ≤ m) (h : m < k) (h2 : k ≤ 13) : cum y m + dim y m ≤ cum y k := by
  have hl := lp_01 y
  rcases months h1 (by omega) with e | e | e | e | e | e | e | e | e | e | e | e <;> subst e <;> (rcases (show k = 2 ∨ k = 3 ∨ k = 4 ∨ k = 5 ∨ k = 6 ∨ k = 7 ∨ k = 8 ∨ k = 9 ∨ k = 10 ∨ k = 11 ∨ k = 12 ∨ k = 13 by omega) with e | e | e | e | e | e | e | e | e | e | e | e <;> subst e <;> (try omega) <;> simp [cum, low, dim, base] <;> omega)
theorem gym_of {y m : Int} (h1 : 1 ≤ y) (h2 : y ≤ 9999) (h3 : 1 ≤ m) (h4 : m ≤ 12) : gym y m = true := by simp [gym]; omega
theorem gym_open {y m : Int} (h : gym y m = true) : 1 ≤ y ∧ y ≤ 9999 ∧ 1 ≤ m ∧ m ≤ 12 := of_decide_eq_true h
theorem gym_not {y m : Int} (h : gym y m = false) : ¬ (1 ≤ y ∧ y ≤ 9999 ∧ 1 ≤ m ∧ m ≤ 12) := of_decide_eq_false h
theorem vld_of {y m d : Int} (h1 : 1 ≤ y) (h2 : y ≤ 9999) (h3 : 1 ≤ m) (h4 : m ≤ 12) (h5 : 1 ≤ d) (h6 : d ≤ dim y m) : vld y m d = true := by simp [vld]; omega
theorem vld_open {y m d : Int} (h : vld y m d = true) : 1 ≤ y ∧ y ≤ 9999 ∧ 1 ≤ m ∧ m ≤ 12 ∧ 1 ≤ d ∧ d ≤ dim y m := of_decide_eq_true h
theorem vld_not {y m d : Int} (h : vld y m d = false) : ¬ (1 ≤ y ∧ y ≤ 9999 ∧ 1 ≤ m ∧ m ≤ 12 ∧ 1 ≤ d ∧ d ≤ dim y m) := of_decide_eq_false h
theorem num_in {y m d : Int} (h : vld y m d = true) : ys y ≤ num y m d ∧ num y m d < ys y + 365 + lp y := by
  obtain ⟨h1, h2, h3, h4, h5, h6⟩ := vld_open h
  have := cum_bd y m
  have := cum_step y h3 (show m < 13 by omega) (by omega)
  have := cum_end y
  unfold num; omega
theorem num_bd {y m d : Int} (h : vld y m d = true) : 0 ≤ num y m d ∧ num y m d ≤ 3652058 := by
  have hi := num_in h
  obtain ⟨h1, h2, h3, h4, h5, h6⟩ := vld_open h
  have h7 := ys_bd h1 (by omega)
  have h8 := ys_lt (show y < 10000 by omega)
  have h9 := ys_end
  omega
theorem num_inj {y m d y' m' d' : Int} (h : vld y m d = true) (h' : vld y' m' d' = true) (e : num y m d = num y' m' d') : y = y' ∧ m = m' ∧ d = d' := by
  have a := num_in h
  have a' := num_in h'
  obtain ⟨h1, h2, h3, h4, h5, h6⟩ := vld_open h
  obtain ⟨k1, k2, k3, k4, k5, k6⟩ := vld_open h'
  have ey : y = y' := by
    rcases Int.lt_trichotomy y y' with l | l | l
    · have := ys_lt l; omega
    · exact l
    · have := ys_lt l; omega
  subst ey
  have em : m = m' := by
    rcases Int.lt_trichotomy m m' with l | l | l
    · have := cum_step y h3 l (by omega); unfold num at e; omega
    · exact l
    · have := cum_step y k3 l (by omega); unfold num at e; omega
  subst em
  exact ⟨rfl, rfl, by unfold num at e; omega⟩
theorem year_ex {n : Int} (h0 : 0 ≤ n) : ∀ k : Nat, n < ys (k + 1) → ∃ y : Int, 1 ≤ y ∧ y ≤ k ∧ ys y ≤ n ∧ n < ys (y + 1)
  | 0, h => by have := ys_one; have e : ys ((0 : Nat) + 1) = ys 1 := rfl; omega
  | k + 1, h => by
    rcases Int.lt_or_le n (ys (k + 1)) with l | l
    · obtain ⟨y, a, b, c, d⟩ := year_ex h0 k l
      exact ⟨y, a, by omega, c, d⟩
    · exact ⟨k + 1, by omega, by omega, l, by have e : (((k + 1 : Nat) : Int) + 1) = (k : Int) + 1 + 1 := by omega
                                              rw [e] at h; exact h⟩
theorem month_ex (y : Int) {r : Int} (h0 : 0 ≤ r) (h : r < 365 + lp y) : ∃ m : Int, 1 ≤ m ∧ m ≤ 12 ∧ cum y m ≤ r ∧ r < cum y m + dim y m := by
  have c1 := cum_one y
  have s1 := cum_succ y (show (1 : Int) ≤ 1 by omega) (by omega)
  have s2 := cum_succ y (show (1 : Int) ≤ 2 by omega) (by omega)
  have s3 := cum_succ y (show (1 : Int) ≤ 3 by omega) (by omega)
  have s4 := cum_succ y (show (1 : Int) ≤ 4 by omega) (by omega)
  have s5 := cum_succ y (show (1 : Int) ≤ 5 by omega) (by omega)
  have s6 := cum_succ y (show (1 : Int) ≤ 6 by omega) (by omega)
  have s7 := cum_succ y (show (1 : Int) ≤ 7 by omega) (by omega)
  have s8 := cum_succ y (show (1 : Int) ≤ 8 by omega) (by omega)
  have s9 := cum_succ y (show (1 : Int) ≤ 9 by omega) (by omega)
  have s10 := cum_succ y (show (1 : Int) ≤ 10 by omega) (by omega)
  have s11 := cum_succ y (show (1 : Int) ≤ 11 by omega) (by omega)
  have s12 := cum_succ y (show (1 : Int) ≤ 12 by omega) (by omega)
  have e := cum_end y
  simp only [show (1 : Int) + 1 = 2 from rfl, show (2 : Int) + 1 = 3 from rfl, show (3 : Int) + 1 = 4 from rfl, show (4 : Int) + 1 = 5 from rfl, show (5 : Int) + 1 = 6 from rfl, show (6 : Int) + 1 = 7 from rfl, show (7 : Int) + 1 = 8 from rfl, show (8 : Int) + 1 = 9 from rfl, show (9 : Int) + 1 = 10 from rfl, show (10 : Int) + 1 = 11 from rfl, show (11 : Int) + 1 = 12 from rfl, show (12 : Int) + 1 = 13 from rfl] at s1 s2 s3 s4 s5 s6 s7 s8 s9 s10 s11 s12
  rcases Int.lt_or_le r (cum y 2) with l | l2
  · exact ⟨1, by omega, by omega, by omega, by omega⟩
  rcases Int.lt_or_le r (cum y 3) with l | l3
  · exact ⟨2, by omega, by omega, by omega, by omega⟩
  rcases Int.lt_or_le r (cum y 4) with l | l4
  · exact ⟨3, by omega, by omega, by omega, by omega⟩
  rcases Int.lt_or_le r (cum y 5) with l | l5
  · exact ⟨4, by omega, by omega, by omega, by omega⟩
  rcases Int.lt_or_le r (cum y 6) with l | l6
  · exact ⟨5, by omega, by omega, by omega, by omega⟩
  rcases Int.lt_or_le r (cum y 7) with l | l7
  · exact ⟨6, by omega, by omega, by omega, by omega⟩
  rcases Int.lt_or_le r (cum y 8) with l | l8
  · exact ⟨7, by omega, by omega, by omega, by omega⟩
  rcases Int.lt_or_le r (cum y 9) with l | l9
  · exact ⟨8, by omega, by omega, by omega, by omega⟩
  rcases Int.lt_or_le r (cum y 10) with l | l10
  · exact ⟨9, by omega, by omega, by omega, by omega⟩
  rcases Int.lt_or_le r (cum y 11) with l | l11
  · exact ⟨10, by omega, by omega, by omega, by omega⟩
  rcases Int.lt_or_le r (cum y 12) with l | l12
  · exact ⟨11, by omega, by omega, by omega, by omega⟩
  exact ⟨12, by omega, by omega, by omega, by omega⟩
/-- Each day has a date. -/
theorem date_ex {n : Int} (h0 : 0 ≤ n) (h : n ≤ 3652058) : ∃ y m d : Int, vld y m d = true ∧ num y m d = n := by
  obtain ⟨y, a, b, c, d⟩ := year_ex h0 9999 (by have := ys_end; have e : ys ((9999 : Nat) + 1) = ys 10000 := rfl; omega)
  have s := ys_succ y
  obtain ⟨m, a', b', c', d'⟩ := month_ex y (r := n - ys y) (by omega) (by omega)
  exact ⟨y, m, n - ys y - cum y m + 1, vld_of a (by omega) a' b' (by omega) (by omega), by unfold num; omega⟩

/-- The next day: within the month, within the year, in the next year. -/
theorem next_in {y m d : Int} (h : vld y m d = true) (hd : d < dim y m) : vld y m (d + 1) = true ∧ num y m (d + 1) = num y m d + 1 := by
  obtain ⟨a1, a2, a3, a4, a5, a6⟩ := vld_open h
  exact ⟨vld_of a1 a2 a3 a4 (by omega) (by omega), by unfold num; omega⟩
theorem next_month {y m d : Int} (h : vld y m d = true) (hd : dim y m ≤ d) (hm : m < 12) : vld y (m + 1) 1 = true ∧ num y (m + 1) 1 = num y m d + 1 := by
  obtain ⟨a1, a2, a3, a4, a5, a6⟩ := vld_open h
  have b := dim_bd y (m + 1)
  have s := cum_succ y a3 a4
  exact ⟨vld_of a1 a2 (by omega) (by omega) (by omega) (by omega), by unfold num; omega⟩
theorem next_year {y m d : Int} (h : vld y m d = true) (hd : dim y m ≤ d) (hm : 12 ≤ m) : num (y + 1) 1 1 = num y m d + 1 := by
  obtain ⟨a1, a2, a3, a4, a5, a6⟩ := vld_open h
  have e : m = 12 := by omega
  subst e
  have s := cum_succ y a3 a4
  have c1 := cum_one (y + 1)
  have c2 : cum y (12 + 1) = 365 + lp y := cum_end y
  have t := ys_succ y
  unfold num; omega
theorem next_vld {y m d : Int} (h : vld y m d = true) (hd : dim y m ≤ d) (hm : 12 ≤ m) (hn : num y m d < 3652058) : vld (y + 1) 1 1 = true := by
  obtain ⟨a1, a2, a3, a4, a5, a6⟩ := vld_open h
  have e := next_year h hd hm
  have hy : y < 9999 := by
    rcases Int.lt_or_le y 9999 with l | l
    · exact l
    · have e9 : y = 9999 := by omega
      subst e9
      have c1 := cum_one (9999 + 1)
      have t : ys (9999 + 1) = 3652059 := ys_end
      unfold num at e hn; omega
  have b := dim_bd (y + 1) 1
  exact vld_of (by omega) (by omega) (by omega) (by omega) (by omega) (by omega)

/-- GREGORY: four hundred years farther. -/
theorem ys_400 (y : Int) : ys (y + 400) = ys y + 146097 := by unfold ys; omega
theorem lp_400 (y : Int) : lp (y + 400) = lp y := by
  unfold lp
  have e1 : (y + 400) % 4 = y % 4 := by omega
  have e2 : (y + 400) % 100 = y % 100 := by omega
  have e3 : (y + 400) % 400 = y % 400 := by omega
  rw [e1, e2, e3]
theorem num_400 (y m d : Int) : num (y + 400) m d = num y m d + 146097 := by
  unfold num cum; rw [ys_400, lp_400]; omega
theorem dim_400 (y m : Int) : dim (y + 400) m = dim y m := by unfold dim; rw [lp_400]
theorem vld_400 {y m d : Int} (h : vld y m d = true) (hn : num y m d ≤ 3505961) : vld (y + 400) m d = true := by
  have hi := num_in h
  obtain ⟨a1, a2, a3, a4, a5, a6⟩ := vld_open h
  have hy : y + 400 ≤ 9999 := by
    rcases Int.lt_or_le (y + 400) 10000 with l | l
    · omega
    · have := ys_mono l; have := ys_end; have := ys_400 y; omega
  exact vld_of (by omega) hy a3 a4 a5 (by rw [dim_400]; exact a6)
/-- A month farther is later, whatever day of it. -/
theorem later_month {y m d y' m' d' : Int} (h : vld y m d = true) (h' : vld y' m' d' = true) (e : y' * 12 + m' - 1 = y * 12 + m - 1 + 1) : num y m d < num y' m' d' := by
  obtain ⟨a1, a2, a3, a4, a5, a6⟩ := vld_open h
  obtain ⟨b1, b2, b3, b4, b5, b6⟩ := vld_open h'
  rcases Int.lt_or_le y y' with l | l
  · have i := num_in h
    have i' := num_in h'
    have := ys_lt l
    omega
  · have ey : y' = y := by omega
    subst ey
    have s := cum_step y' a3 (show m < m' by omega) (by omega)
    unfold num; omega

/-- The first day of a year by four centuries, centuries, four years and years. -/
theorem ys_ref (y : Int) : 146097 * ((y - 1) / 400) + 36524 * ((y - 1) % 400 / 100) + 1461 * ((y - 1) % 100 / 4) + 365 * ((y - 1) % 4) = ys y := by
  unfold ys
  have e1 : (y - 1) / 100 = 4 * ((y - 1) / 400) + (y - 1) % 400 / 100 := by omega
  have e2 : (y - 1) / 4 = 25 * ((y - 1) / 100) + (y - 1) % 100 / 4 := by omega
  have e3 : (y - 1) = 4 * ((y - 1) / 4) + (y - 1) % 4 := by omega
  generalize (y - 1) / 400 = a at *
  generalize (y - 1) % 400 / 100 = b at *
  generalize (y - 1) % 100 / 4 = c at *
  generalize (y - 1) % 4 = d at *
  generalize (y - 1) / 100 = e at *
  generalize (y - 1) / 4 = f at *
  omega
/-- Which years, which months of the year, begin no later than a day. -/
theorem year_le {y m d n k : Int} (h : vld y m d = true) (hn : num y m d = n) : ys k ≤ n ↔ k ≤ y := by
  have i := num_in h
  constructor
  · intro l
    rcases Int.lt_or_le y k with g | g
    · have := ys_lt g; omega
    · exact g
  · intro l
    have := ys_mono l; omega
theorem month_le {y m d n k : Int} (h : vld y m d = true) (hn : num y m d = n) (h1 : 1 ≤ k) (h2 : k ≤ 12) : num y k 1 ≤ n ↔ k ≤ m := by
  obtain ⟨a1, a2, a3, a4, a5, a6⟩ := vld_open h
  constructor
  · intro l
    rcases Int.lt_or_le m k with g | g
    · have := cum_step y a3 g (by omega); unfold num at l hn; omega
    · exact g
  · intro l
    rcases (show k < m ∨ k = m by omega) with g | g
    · have := cum_step y h1 g (by omega); have := dim_bd y k; unfold num at *; omega
    · subst g; unfold num at *; omega
theorem first_vld {y m : Int} (h1 : 1 ≤ y) (h2 : y ≤ 9999) (h3 : 1 ≤ m) (h4 : m ≤ 12) : vld y m 1 = true := by
  have := dim_bd y m
  exact vld_of h1 h2 h3 h4 (by omega) (by omega)
theorem num_first (y : Int) : num y 1 1 = ys y := by have := cum_one y; unfold num; omega

/-- ZELLER's rule, months and years shifted where the month is January or February. -/
theorem zeller_low {y m d : Int} (h : vld y m d = true) (h3 : m < 3) :
    (d + 13 * (m + 12 + 1) / 5 + (y - 1) % 100 + (y - 1) % 100 / 4 + (y - 1) / 100 / 4 + 5 * ((y - 1) / 100) + 6) % 7 = (num y m d + 1) % 7 := by
  obtain ⟨h1, _, k1, _, _, _⟩ := vld_open h
  have q1 : (y - 1) / 4 = 25 * ((y - 1) / 100) + (y - 1) % 100 / 4 := by omega
  have q2 : (y - 1) / 400 = (y - 1) / 100 / 4 := by omega
  have q3 : y - 1 = 100 * ((y - 1) / 100) + (y - 1) % 100 := by omega
  have e1 : num y m d = (y - 1) * 365 + (y - 1) / 4 - (y - 1) / 100 + (y - 1) / 400 + low m + d - 1 := by unfold num cum ys; rw [if_neg (by omega)]
  rw [e1, q1, q2]
  generalize (y - 1) / 100 = j at *
  generalize (y - 1) % 100 = k at *
  rcases (show m = 1 ∨ m = 2 by omega) with e | e <;> subst e <;> simp [low] <;> omega
theorem zeller_top {y m d : Int} (h : vld y m d = true) (h3 : 3 ≤ m) :
    (d + 13 * (m + 1) / 5 + y % 100 + y % 100 / 4 + y / 100 / 4 + 5 * (y / 100) + 6) % 7 = (num y m d + 1) % 7 := by
  obtain ⟨h1, _, _, k1, _, _⟩ := vld_open h
  have hs := ys_succ y
  have e1 : num y m d = ys (y + 1) - 365 + low m + d - 1 := by unfold num cum; rw [if_pos (by omega)]; omega
  have q1 : y / 4 = 25 * (y / 100) + y % 100 / 4 := by omega
  have q2 : y / 400 = y / 100 / 4 := by omega
  have q3 : y = 100 * (y / 100) + y % 100 := by omega
  have e2 : ys (y + 1) = y * 365 + y / 4 - y / 100 + y / 400 := by unfold ys; simp
  rw [e1, e2, q1, q2]
  clear e1 e2 hs
  generalize y / 100 = j at *
  generalize y % 100 = k at *
  rcases (show m = 3 ∨ m = 4 ∨ m = 5 ∨ m = 6 ∨ m = 7 ∨ m = 8 ∨ m = 9 ∨ m = 10 ∨ m = 11 ∨ m = 12 by omega) with e | e | e | e | e | e | e | e | e | e <;> subst e <;> simp [low] <;> omega
end Go.Proofs.YtmhidmocmolgfaaDoor.Cal
