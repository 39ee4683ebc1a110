/- The plain mathematics of runs, told number by number: the runs that begin below a number, and that all of them are a set's runs. No program is named here. -/
import Derived.Test.YthebcdadoinflaaDoorPrn
namespace Go.Proofs.YthebcdadoinflaaDoor.Crn
open Cal Txt

/-- Does a run begin here, and where does it end? -/
def beg (s n : Nat) : Bool := s.testBit n && !(decide (1 ≤ n) && s.testBit (n - 1))
def zr (s n : Nat) : Nat := Lib.ctz 64 (18446744073709551615 - s / 2 ^ n)
def fin (s n : Nat) : Nat := n + zr s n - 1
def rb (s : Nat) : Nat → List (Nat × Nat)
  | 0 => []
  | n + 1 => if beg s n then rb s n ++ [(n, fin s n)] else rb s n
theorem zr_ne {s : Nat} (n : Nat) (hs : s < 9223372036854775808) : 18446744073709551615 - s / 2 ^ n ≠ 0 := by
  have := Nat.div_le_self s (2 ^ n)
  omega
/-- The end of a run is where it ends. -/
theorem fin_of {s n e : Nat} (hs : s < 9223372036854775808) (h1 : n ≤ e) (hin : ∀ j, n ≤ j → j ≤ e → s.testBit j = true) (hout : s.testBit (e + 1) = false) : fin s n = e := by
  have hl := Nat.div_le_self s (2 ^ n)
  have hb := ctz_bit (zr_ne n hs) (sub_lt _)
  have hlow := fun j => ctz_low (j := j) (zr_ne n hs) (sub_lt _)
  have hlt := ctz_lt (zr_ne n hs) (sub_lt _)
  have e64 : e < 63 := bit_lt (n := 63) hs (hin e h1 (Nat.le_refl _))
  unfold fin zr
  generalize hz : Lib.ctz 64 (18446744073709551615 - s / 2 ^ n) = z at *
  rw [not_bit (by omega), bit_div, decide_eq_true hlt] at hb
  have hb' : s.testBit (n + z) = false := by simpa using hb
  have hge : e < n + z := by
    rcases Nat.lt_or_ge e (n + z) with l | l
    · exact l
    · have := hin (n + z) (by omega) l
      rw [hb'] at this
      cases this
  have hle : n + z ≤ e + 1 := by
    rcases Nat.lt_or_ge (e + 1) (n + z) with l | l
    · have := hlow (e + 1 - n) (by omega)
      rw [not_bit (by omega), bit_div, show n + (e + 1 - n) = e + 1 by omega, hout, decide_eq_true (by omega)] at this
      cases this
    · exact l
  omega
theorem rb_none {s : Nat} (m : Nat) (h : ∀ j, j < m → s.testBit j = false) : ∀ n, n ≤ m → rb s n = []
  | 0, _ => rfl
  | n + 1, hn => by
    have : beg s n = false := by unfold beg; rw [h n (by omega)]; rfl
    rw [rb, if_neg (by rw [this]; decide), rb_none m h n (by omega)]
theorem fin_nx {s n : Nat} (hn : Lib.ctz 64 s + zz s ≤ n) : fin (nx s) n = fin s n := by
  have e : nx s / 2 ^ n = s / 2 ^ n := by
    apply Nat.eq_of_testBit_eq
    intro j
    rw [bit_div, bit_div, nx_bit, decide_eq_true (by omega)]
    rfl
  unfold fin zr
  rw [e]
theorem rb_rns : ∀ (m s : Nat), s ≤ m → s < 9223372036854775808 → rb s 64 = rns s
  | 0, s, hm, _ => by
    have : s = 0 := by omega
    subst this
    rw [rns_zero]
    exact rb_none 64 (by simp) 64 (by omega)
  | m + 1, s, hm, hs => by
    by_cases h0 : s = 0
    · subst h0
      rw [rns_zero]
      exact rb_none 64 (by simp) 64 (by omega)
    · have hlt := nx_lt h0 hs
      have hz := zz_pos h0 hs
      have ht := run_top h0 hs
      have key : ∀ n, Lib.ctz 64 s + 1 ≤ n → n ≤ 64 → rb s n = (Lib.ctz 64 s, Lib.ctz 64 s + zz s - 1) :: rb (nx s) n := by
        intro n
        induction n with
        | zero => intro h _; omega
        | succ n ih =>
          intro h1 h2
          have hnone : n ≤ Lib.ctz 64 s + zz s → rb (nx s) n = [] := fun h => rb_none (Lib.ctz 64 s + zz s) (fun j hj => by rw [nx_bit, decide_eq_false (by omega)]; rfl) n h
          rcases (show n = Lib.ctz 64 s ∨ Lib.ctz 64 s + 1 ≤ n by omega) with e | e
          · have hb1 : beg s n = true := by
              unfold beg
              rw [e, ctz_bit h0 (by omega)]
              by_cases h : 1 ≤ Lib.ctz 64 s
              · rw [run_low h0 hs (show Lib.ctz 64 s - 1 < Lib.ctz 64 s by omega)]
                simp
              · rw [decide_eq_false h]
                rfl
            have hf : fin s n = Lib.ctz 64 s + zz s - 1 := by
              rw [e]
              refine fin_of hs (by omega) (fun j a b => run_in hs a (by omega)) ?_
              rw [show Lib.ctz 64 s + zz s - 1 + 1 = Lib.ctz 64 s + zz s by omega]
              exact run_out hs
            have hn0 : rb s n = [] := rb_none (Lib.ctz 64 s) (fun j hj => run_low h0 hs hj) n (by omega)
            have hb2 : beg (nx s) n = false := by unfold beg; rw [nx_bit, decide_eq_false (by omega)]; rfl
            rw [rb, if_pos hb1, hn0, hf, rb, if_neg (by rw [hb2]; decide), hnone (by omega), e]
            rfl
          · have hbe : beg s n = beg (nx s) n := by
              unfold beg
              rw [nx_bit, nx_bit]
              by_cases h3 : n < Lib.ctz 64 s + zz s
              · rw [run_in (j := n) hs (by omega) h3, run_in (j := n - 1) hs (by omega) (by omega), decide_eq_true (show 1 ≤ n by omega), decide_eq_false (show ¬ Lib.ctz 64 s + zz s ≤ n by omega)]
                rfl
              · rw [decide_eq_true (show Lib.ctz 64 s + zz s ≤ n by omega)]
                by_cases h4 : n = Lib.ctz 64 s + zz s
                · rw [h4, run_out hs]
                  rfl
                · rw [decide_eq_true (show Lib.ctz 64 s + zz s ≤ n - 1 by omega)]
                  rfl
            rw [rb, rb, ← hbe, ih e (by omega)]
            by_cases h5 : beg s n = true
            · rw [if_pos h5, if_pos h5]
              have h6 : Lib.ctz 64 s + zz s ≤ n := by
                rw [hbe] at h5
                unfold beg at h5
                rw [nx_bit] at h5
                simp at h5
                exact h5.1.1
              rw [fin_nx h6]
              rfl
            · rw [if_neg h5, if_neg h5]
      rw [key 64 (by omega) (Nat.le_refl _), rns_step h0 hs, rb_rns m (nx s) (by omega) (by omega)]
/-- Behind the last number nothing begins. -/
theorem rb_top {s hi : Nat} (h : ∀ j, hi < j → s.testBit j = false) : ∀ n, hi + 1 ≤ n → rb s n = rb s (hi + 1)
  | 0, hn => by omega
  | n + 1, hn => by
    rcases (show hi + 1 = n + 1 ∨ hi + 1 ≤ n by omega) with e | e
    · rw [e]
    · have : beg s n = false := by unfold beg; rw [h n (by omega)]; rfl
      rw [rb, if_neg (by rw [this]; decide), rb_top h n e]
theorem rb_low {s lo : Nat} (h : ∀ j, j < lo → s.testBit j = false) : rb s lo = [] := rb_none lo h lo (Nat.le_refl _)
/-- Texts that are joined one by one. -/
theorem join_snoc {c : UInt8} {xs : List (List UInt8)} (x : List UInt8) (h : xs ≠ []) : Lib.join (xs ++ [x]) [c] = Lib.join xs [c] ++ c :: x := by
  cases xs with
  | nil => exact absurd rfl h
  | cons a r =>
    rw [List.cons_append, Lib.join_cons, Lib.join_cons]
    simp [Lib.joinTail]
end Go.Proofs.YthebcdadoinflaaDoor.Crn
