/- The plain mathematics of the texts of days: digits of fixed width, reading them back, their order, and that a day's text determines the day. No program is named here. -/
import Derived.Lib.ItoaNum
import Derived.Lib.Repeat
import GoSem.Op.String
import Derived.Test.YtmhidmocmolgfaaDoorCal
namespace Go.Proofs.YtmhidmocmolgfaaDoor.Txt
open Go.Lib Go.Proofs.YtmhidmocmolgfaaDoor.Cal

def dgt (n : Nat) : UInt8 := UInt8.ofNat (48 + n % 10)
def d2 (n : Nat) : List UInt8 := [dgt (n / 10), dgt n]
def d4 (n : Nat) : List UInt8 := [dgt (n / 1000), dgt (n / 100), dgt (n / 10), dgt n]
def txt (y m d : Int) : List UInt8 := d4 y.toNat ++ 45 :: (d2 m.toNat ++ 45 :: d2 d.toNat)

theorem dgt_toNat (n : Nat) : (dgt n).toNat = 48 + n % 10 := by
  unfold dgt; simp; omega
theorem dgt_mod (n : Nat) : dgt n = UInt8.ofNat (48 + n % 10) := rfl
theorem dgt_small {n : Nat} (h : n < 10) : UInt8.ofNat (48 + n) = dgt n := by rw [dgt_mod, Nat.mod_eq_of_lt h]
theorem txt_length (y m d : Int) : (txt y m d).length = 10 := rfl

theorem pad2 {u : Nat} (h : u < 100) : (decDigits u).length ≤ 2 ∧ repeatL [48] (2 - (decDigits u).length) ++ decDigits u = d2 u := by
  by_cases h1 : u < 10
  · rw [decDigits_one h1]
    refine ⟨by simp, ?_⟩
    have e : u / 10 = 0 := by omega
    simp [repeatL, d2, dgt_small h1, e]; rfl
  · rw [decDigits_two h1 h]
    refine ⟨by simp, ?_⟩
    have e1 : u / 10 % 10 = u / 10 := by omega
    simp [repeatL, d2, dgt, e1]
theorem pad4 {u : Nat} (h : u < 10000) : (decDigits u).length ≤ 4 ∧ repeatL [48] (4 - (decDigits u).length) ++ decDigits u = d4 u := by
  by_cases h1 : u < 10
  · rw [decDigits_one h1]
    refine ⟨by simp, ?_⟩
    have e1 : u / 10 = 0 := by omega
    have e2 : u / 100 = 0 := by omega
    have e3 : u / 1000 = 0 := by omega
    simp [repeatL, d4, dgt_small h1, e1, e2, e3]; rfl
  · by_cases h2 : u < 100
    · rw [decDigits_two h1 h2]
      refine ⟨by simp, ?_⟩
      have e2 : u / 100 = 0 := by omega
      have e3 : u / 1000 = 0 := by omega
      have e1 : u / 10 % 10 = u / 10 := by omega
      simp [repeatL, d4, dgt, e1, e2, e3]
    · by_cases h3 : u < 1000
      · rw [decDigits, dif_neg h1, decDigits_two (by omega) (by omega)]
        refine ⟨by simp, ?_⟩
        have e3 : u / 1000 = 0 := by omega
        have e1 : u / 10 / 10 % 10 = u / 10 / 10 := by omega
        have e2 : u / 10 / 10 = u / 100 := by omega
        rw [e2] at e1
        simp [repeatL, d4, dgt, e1, e2, e3]
      · rw [decDigits, dif_neg h1, decDigits, dif_neg (by omega), decDigits_two (by omega) (by omega)]
        refine ⟨by simp, ?_⟩
        have e2 : u / 10 / 10 = u / 100 := by omega
        have e3 : u / 10 / 10 / 10 = u / 1000 := by omega
        have e1 : u / 1000 % 10 = u / 1000 := by omega
        have e4 : u / 100 / 10 = u / 1000 := by omega
        simp [repeatL, d4, dgt, e1, e2, e4]

/-- The number that digits tell; none, where one is no digit. -/
def nrd : List UInt8 → Int → Option Int
  | [], a => some a
  | c :: r, a => if 48 ≤ (c.toNat : Int) ∧ (c.toNat : Int) ≤ 57 then nrd r (a * 10 + ((c.toNat : Int) - 48)) else none

theorem nrd_append (l r : List UInt8) : ∀ a, nrd (l ++ r) a = (nrd l a).bind (nrd r) := by
  induction l with
  | nil => intro a; rfl
  | cons c l ih => intro a; simp only [List.cons_append, nrd]; split
                   · rw [ih]
                   · rfl
theorem nrd_snoc {l : List UInt8} {c : UInt8} {a b : Int} (h : nrd l a = some b) : nrd (l ++ [c]) a = if 48 ≤ (c.toNat : Int) ∧ (c.toNat : Int) ≤ 57 then some (b * 10 + ((c.toNat : Int) - 48)) else none := by
  rw [nrd_append, h]; rfl
theorem nrd_prefix_none {l : List UInt8} (r : List UInt8) {a : Int} (h : nrd l a = none) : nrd (l ++ r) a = none := by
  rw [nrd_append, h]; rfl
theorem nrd_bd : ∀ (l : List UInt8) (a b : Int) (k : Nat), l.length ≤ k → 0 ≤ a → nrd l a = some b → 0 ≤ b ∧ b < (a + 1) * 10 ^ k
  | [], a, b, k, _, h0, h => by
    simp only [nrd, Option.some.injEq] at h
    subst h
    have : (1 : Int) ≤ 10 ^ k := by
      have := Nat.one_le_pow k 10 (by decide)
      have e : ((10 ^ k : Nat) : Int) = (10 : Int) ^ k := by simp
      omega
    refine ⟨h0, ?_⟩
    have := Int.mul_le_mul_of_nonneg_left this (show 0 ≤ a + 1 by omega)
    omega
  | c :: l, a, b, 0, hl, _, _ => by simp at hl
  | c :: l, a, b, k + 1, hl, h0, h => by
    simp only [nrd] at h
    split at h
    · rename_i hc
      have i := nrd_bd l _ b k (by simpa using hl) (by omega) h
      refine ⟨i.1, ?_⟩
      have p : (0 : Int) ≤ 10 ^ k := Int.pow_nonneg (by decide)
      have m := Int.mul_le_mul_of_nonneg_right (show a * 10 + ((c.toNat : Int) - 48) + 1 ≤ (a + 1) * 10 by omega) p
      have e : (a + 1) * 10 ^ (k + 1) = (a + 1) * 10 * 10 ^ k := by rw [Int.pow_succ, Int.mul_assoc, Int.mul_comm (10 : Int) (10 ^ k)]
      omega
    · simp at h

theorem nrd_one (n : Nat) (r : List UInt8) (a : Int) : nrd (dgt n :: r) a = nrd r (a * 10 + ((n % 10 : Nat) : Int)) := by
  have h := dgt_toNat n
  simp only [nrd, h]
  rw [if_pos (by omega)]
  congr 1
  omega
theorem nrd_d2 {n : Nat} (h : n < 100) : nrd (d2 n) 0 = some (n : Int) := by
  unfold d2
  rw [nrd_one, nrd_one, nrd]
  congr 1
  omega
theorem nrd_d4 {n : Nat} (h : n < 10000) : nrd (d4 n) 0 = some (n : Int) := by
  unfold d4
  rw [nrd_one, nrd_one, nrd_one, nrd_one, nrd]
  congr 1
  omega

/-- What a text tells: year, month and day; none, where it is not of the form. -/
def rd (l : List UInt8) : Option (Int × Int × Int) :=
  if l.length = 10 ∧ l.getD 4 0 = 45 ∧ l.getD 7 0 = 45 then
    (nrd (l.take 4) 0).bind fun y => (nrd ((l.drop 5).take 2) 0).bind fun m => (nrd (l.drop 8) 0).bind fun d => some (y, m, d)
  else none

theorem rd_txt {y m d : Int} (h : vld y m d = true) : rd (txt y m d) = some (y, m, d) := by
  obtain ⟨a1, a2, a3, a4, a5, a6⟩ := vld_open h
  have bd := dim_bd y m
  have e1 : (txt y m d).take 4 = d4 y.toNat := rfl
  have e2 : ((txt y m d).drop 5).take 2 = d2 m.toNat := rfl
  have e3 : (txt y m d).drop 8 = d2 d.toNat := rfl
  unfold rd
  rw [if_pos ⟨rfl, rfl, rfl⟩, e1, e2, e3, nrd_d4 (by omega), nrd_d2 (by omega), nrd_d2 (by omega)]
  simp
  omega

theorem byte_of_digit {c : UInt8} {k : Nat} (h : c.toNat = 48 + k) (hk : k < 10) : c = dgt k := by
  apply UInt8.toNat_inj.1
  rw [dgt_toNat, h, Nat.mod_eq_of_lt hk]

/-- Two bytes, four bytes, that are read as a number are its digits. -/
theorem two_back {a b : UInt8} {v : Int} (h : nrd [a, b] 0 = some v) : 0 ≤ v ∧ v < 100 ∧ [a, b] = d2 v.toNat := by
  simp only [nrd] at h
  split at h
  · rename_i ha
    split at h
    · rename_i hb
      simp only [Option.some.injEq] at h
      have e : v = ((a.toNat : Int) - 48) * 10 + ((b.toNat : Int) - 48) := by omega
      refine ⟨by omega, by omega, ?_⟩
      unfold d2
      rw [show a = dgt (v.toNat / 10) from ?_, show b = dgt v.toNat from ?_]
      · apply UInt8.toNat_inj.1; rw [dgt_toNat]; omega
      · apply UInt8.toNat_inj.1; rw [dgt_toNat]; omega
    · simp at h
  · simp at h
theorem four_back {a b c d : UInt8} {v : Int} (h : nrd [a, b, c, d] 0 = some v) : 0 ≤ v ∧ v < 10000 ∧ [a, b, c, d] = d4 v.toNat := by
  simp only [nrd] at h
  split at h
  · rename_i ha
    split at h
    · rename_i hb
      split at h
      · rename_i hc
        split at h
        · rename_i hd
          simp only [Option.some.injEq] at h
          have e : v = ((a.toNat : Int) - 48) * 1000 + ((b.toNat : Int) - 48) * 100 + ((c.toNat : Int) - 48) * 10 + ((d.toNat : Int) - 48) := by omega
          refine ⟨by omega, by omega, ?_⟩
          unfold d4
          rw [show a = dgt (v.toNat / 1000) from ?_, show b = dgt (v.toNat / 100) from ?_, show c = dgt (v.toNat / 10) from ?_, show d = dgt v.toNat from ?_]
          · apply UInt8.toNat_inj.1; rw [dgt_toNat]; omega
          · apply UInt8.toNat_inj.1; rw [dgt_toNat]; omega
          · apply UInt8.toNat_inj.1; rw [dgt_toNat]; omega
          · apply UInt8.toNat_inj.1; rw [dgt_toNat]; omega
        · simp at h
      · simp at h
    · simp at h
  · simp at h

/-- A text that is read is told so. -/
theorem txt_rd {l : List UInt8} {y m d : Int} (h : rd l = some (y, m, d)) : txt y m d = l := by
  unfold rd at h
  split at h
  · rename_i hc
    obtain ⟨hl, h4, h7⟩ := hc
    match l, hl with
    | [b0, b1, b2, b3, b4, b5, b6, b7, b8, b9], _ =>
      simp at h4 h7
      subst h4; subst h7
      simp only [List.take, List.drop, Option.bind_eq_some_iff, Option.some.injEq, Prod.mk.injEq] at h
      obtain ⟨y', hy, m', hm, d', hd, rfl, rfl, rfl⟩ := h
      obtain ⟨_, _, e4⟩ := four_back hy
      obtain ⟨_, _, e2⟩ := two_back hm
      obtain ⟨_, _, e0⟩ := two_back hd
      unfold txt
      rw [← e4, ← e2, ← e0]
      rfl
  · simp at h

/-- The order of texts of one length, place for place. -/
theorem less_cons (a b : UInt8) (x y : List UInt8) : Op.bytesLess (a :: x) (b :: y) = decide (a.toNat < b.toNat ∨ a.toNat = b.toNat ∧ Op.bytesLess x y = true) := by
  simp only [Op.bytesLess]
  rw [Bool.eq_iff_iff]
  simp [UInt8.lt_iff_toNat_lt, ← UInt8.toNat_inj]
theorem less_d2 {m n : Nat} (hm : m < 100) (hn : n < 100) (x y : List UInt8) : Op.bytesLess (d2 m ++ x) (d2 n ++ y) = decide (m < n ∨ m = n ∧ Op.bytesLess x y = true) := by
  unfold d2
  simp only [List.cons_append, List.nil_append]
  rw [less_cons, less_cons, dgt_toNat, dgt_toNat, dgt_toNat, dgt_toNat, Bool.eq_iff_iff]
  simp only [decide_eq_true_eq]
  cases Op.bytesLess x y <;> simp <;> omega
theorem less_d4 {m n : Nat} (hm : m < 10000) (hn : n < 10000) (x y : List UInt8) : Op.bytesLess (d4 m ++ x) (d4 n ++ y) = decide (m < n ∨ m = n ∧ Op.bytesLess x y = true) := by
  unfold d4
  simp only [List.cons_append, List.nil_append]
  rw [less_cons, less_cons, less_cons, less_cons, Bool.eq_iff_iff]
  simp only [dgt_toNat, decide_eq_true_eq]
  have em : m = 1000 * (m / 1000 % 10) + 100 * (m / 100 % 10) + 10 * (m / 10 % 10) + m % 10 := by omega
  have en : n = 1000 * (n / 1000 % 10) + 100 * (n / 100 % 10) + 10 * (n / 10 % 10) + n % 10 := by omega
  have b1 : m / 1000 % 10 < 10 := by omega
  have b2 : m / 100 % 10 < 10 := by omega
  have b3 : m / 10 % 10 < 10 := by omega
  have b4 : m % 10 < 10 := by omega
  have c1 : n / 1000 % 10 < 10 := by omega
  have c2 : n / 100 % 10 < 10 := by omega
  have c3 : n / 10 % 10 < 10 := by omega
  have c4 : n % 10 < 10 := by omega
  generalize m / 1000 % 10 = m3 at *
  generalize m / 100 % 10 = m2 at *
  generalize m / 10 % 10 = m1 at *
  generalize m % 10 = m0 at *
  generalize n / 1000 % 10 = n3 at *
  generalize n / 100 % 10 = n2 at *
  generalize n / 10 % 10 = n1 at *
  generalize n % 10 = n0 at *
  cases Op.bytesLess x y <;> simp <;> omega
theorem num_lt {y m d y' m' d' : Int} (h : vld y m d = true) (h' : vld y' m' d' = true) : num y m d < num y' m' d' ↔ y < y' ∨ y = y' ∧ (m < m' ∨ m = m' ∧ d < d') := by
  have i := num_in h
  have i' := num_in h'
  obtain ⟨a1, a2, a3, a4, a5, a6⟩ := vld_open h
  obtain ⟨b1, b2, b3, b4, b5, b6⟩ := vld_open h'
  rcases Int.lt_trichotomy y y' with l | l | l
  · have := ys_lt l; omega
  · subst l
    rcases Int.lt_trichotomy m m' with l | l | l
    · have := cum_step y a3 l (by omega); unfold num; omega
    · subst l; unfold num; omega
    · have := cum_step y b3 l (by omega); unfold num; omega
  · have := ys_lt l; omega
theorem less_txt {y m d y' m' d' : Int} (h : vld y m d = true) (h' : vld y' m' d' = true) : Op.bytesLess (txt y m d) (txt y' m' d') = decide (num y m d < num y' m' d') := by
  have q := num_lt h h'
  obtain ⟨a1, a2, a3, a4, a5, a6⟩ := vld_open h
  obtain ⟨b1, b2, b3, b4, b5, b6⟩ := vld_open h'
  have c1 := dim_bd y m
  have c2 := dim_bd y' m'
  have e : ∀ n : Nat, d2 n = d2 n ++ [] := fun n => by simp
  unfold txt
  rw [less_d4 (by omega) (by omega), less_cons, less_d2 (by omega) (by omega), less_cons, e d.toNat, e d'.toNat, less_d2 (by omega) (by omega), Bool.eq_iff_iff]
  simp only [decide_eq_true_eq, Op.bytesLess]
  rw [q]
  simp
  omega
theorem eq_txt {y m d y' m' d' : Int} (h : vld y m d = true) (h' : vld y' m' d' = true) : txt y m d = txt y' m' d' ↔ num y m d = num y' m' d' := by
  constructor
  · intro e
    have r := rd_txt h
    rw [e, rd_txt h'] at r
    simp only [Option.some.injEq, Prod.mk.injEq] at r
    obtain ⟨rfl, rfl, rfl⟩ := r
    rfl
  · intro e
    obtain ⟨rfl, rfl, rfl⟩ := num_inj h h' e
    rfl
end Go.Proofs.YtmhidmocmolgfaaDoor.Txt
