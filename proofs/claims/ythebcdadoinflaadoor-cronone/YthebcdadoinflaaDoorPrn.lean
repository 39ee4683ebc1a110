/- The plain mathematics of telling a cron: runs of numbers, their texts, and that a text that was told is read as it was. No program is named here. -/
import Derived.Test.YthebcdadoinflaaDoorPrt
import Derived.Lib.ItoaNum
import Derived.Lib.Join
namespace Go.Proofs.YthebcdadoinflaaDoor.Crn
open Cal Txt

/-- The length of the lowest run of a set, and the set behind it. -/
def zz (s : Nat) : Nat := Lib.ctz 64 (18446744073709551615 - s / 2 ^ Lib.ctz 64 s)
def nx (s : Nat) : Nat := s / 2 ^ (Lib.ctz 64 s + zz s) * 2 ^ (Lib.ctz 64 s + zz s)
theorem not_bit {x : Nat} (hx : x < 18446744073709551616) (j : Nat) : (18446744073709551615 - x).testBit j = (decide (j < 64) && !x.testBit j) := by
  have := Nat.testBit_two_pow_sub_succ (n := 64) hx j
  rw [← this]
  congr 1
  omega
theorem sub_lt (x : Nat) : 18446744073709551615 - x < 18446744073709551616 := by omega
theorem zz_ne {s : Nat} (hs : s < 9223372036854775808) : 18446744073709551615 - s / 2 ^ Lib.ctz 64 s ≠ 0 := by
  have := Nat.div_le_self s (2 ^ Lib.ctz 64 s)
  omega
theorem run_low {s j : Nat} (h0 : s ≠ 0) (hs : s < 9223372036854775808) (hj : j < Lib.ctz 64 s) : s.testBit j = false := ctz_low h0 (by omega) hj
theorem run_in {s j : Nat} (hs : s < 9223372036854775808) (h1 : Lib.ctz 64 s ≤ j) (h2 : j < Lib.ctz 64 s + zz s) : s.testBit j = true := by
  have hl := Nat.div_le_self s (2 ^ Lib.ctz 64 s)
  have h := ctz_low (j := j - Lib.ctz 64 s) (zz_ne hs) (sub_lt _) (by unfold zz at h2; omega)
  have hlt : zz s < 64 := ctz_lt (zz_ne hs) (sub_lt _)
  rw [not_bit (by omega), bit_div, show Lib.ctz 64 s + (j - Lib.ctz 64 s) = j by omega, decide_eq_true (by omega)] at h
  simpa using h
theorem run_out {s : Nat} (hs : s < 9223372036854775808) : s.testBit (Lib.ctz 64 s + zz s) = false := by
  have hl := Nat.div_le_self s (2 ^ Lib.ctz 64 s)
  have h := ctz_bit (zz_ne hs) (sub_lt _)
  have hlt : zz s < 64 := ctz_lt (zz_ne hs) (sub_lt _)
  rw [show Lib.ctz 64 (18446744073709551615 - s / 2 ^ Lib.ctz 64 s) = zz s from rfl, not_bit (by omega), bit_div, decide_eq_true hlt] at h
  simpa using h
theorem zz_pos {s : Nat} (h0 : s ≠ 0) (hs : s < 9223372036854775808) : 1 ≤ zz s := by
  rcases Nat.eq_zero_or_pos (zz s) with e | e
  · have h1 := run_out hs
    rw [e, Nat.add_zero, ctz_bit h0 (by omega)] at h1
    cases h1
  · exact e
theorem run_top {s : Nat} (h0 : s ≠ 0) (hs : s < 9223372036854775808) : Lib.ctz 64 s + zz s ≤ 63 := by
  have hp := zz_pos h0 hs
  have hb := run_in (j := Lib.ctz 64 s + zz s - 1) hs (by omega) (by omega)
  have := bit_lt (n := 63) hs hb
  omega
theorem nx_bit (s j : Nat) : (nx s).testBit j = (decide (Lib.ctz 64 s + zz s ≤ j) && s.testBit j) := by
  unfold nx
  rw [Nat.testBit_mul_two_pow, Nat.testBit_div_two_pow]
  by_cases e : Lib.ctz 64 s + zz s ≤ j
  · rw [decide_eq_true e, show j - (Lib.ctz 64 s + zz s) + (Lib.ctz 64 s + zz s) = j by omega]
  · rw [decide_eq_false e]
    simp
theorem nx_le (s : Nat) : nx s ≤ s := Nat.div_mul_le_self _ _
theorem nx_lt {s : Nat} (h0 : s ≠ 0) (hs : s < 9223372036854775808) : nx s < s := by
  have hp := zz_pos h0 hs
  rcases Nat.lt_or_eq_of_le (nx_le s) with l | l
  · exact l
  · exfalso
    have h1 := nx_bit s (Lib.ctz 64 s)
    rw [l, ctz_bit h0 (by omega), decide_eq_false (by omega)] at h1
    cases h1
/-- A set is its lowest run, and what is behind it. -/
theorem run_or {s : Nat} (h0 : s ≠ 0) (hs : s < 9223372036854775808) : spn (Lib.ctz 64 s : Nat) ((Lib.ctz 64 s + zz s - 1 : Nat) : Int) 1 ||| nx s = s := by
  have hp := zz_pos h0 hs
  apply Nat.eq_of_testBit_eq
  intro j
  rw [Nat.testBit_or, spn_bit (by omega), nx_bit]
  have e1 : (j - ((Lib.ctz 64 s : Nat) : Int).toNat) % (1 : Int).toNat = 0 := Nat.mod_one _
  by_cases a : Lib.ctz 64 s ≤ j
  · by_cases b : j < Lib.ctz 64 s + zz s
    · rw [decide_eq_true ⟨by omega, by omega, e1⟩, run_in hs a b]
      rfl
    · rw [decide_eq_false (by omega), decide_eq_true (by omega)]
      simp
  · rw [decide_eq_false (by omega), decide_eq_false (by omega), run_low h0 hs (by omega)]
    rfl
theorem run_andNot {s : Nat} (h0 : s ≠ 0) (hs : s < 9223372036854775808) : s &&& (18446744073709551615 - spn (Lib.ctz 64 s : Nat) ((Lib.ctz 64 s + zz s - 1 : Nat) : Int) 1) = nx s := by
  have hp := zz_pos h0 hs
  have ht := run_top h0 hs
  apply Nat.eq_of_testBit_eq
  intro j
  have e1 : (j - ((Lib.ctz 64 s : Nat) : Int).toNat) % (1 : Int).toNat = 0 := Nat.mod_one _
  rw [Nat.testBit_and, not_bit (spn_lt (by omega) (by omega)), spn_bit (by omega), nx_bit]
  by_cases a : Lib.ctz 64 s ≤ j
  · by_cases b : j < Lib.ctz 64 s + zz s
    · rw [decide_eq_true (p := _ ∧ _) ⟨by omega, by omega, e1⟩, decide_eq_false (p := Lib.ctz 64 s + zz s ≤ j) (by omega)]
      simp
    · rw [decide_eq_false (p := _ ∧ _) (by omega), decide_eq_true (p := Lib.ctz 64 s + zz s ≤ j) (by omega)]
      by_cases c : j < 64
      · rw [decide_eq_true c]; simp
      · have : s.testBit j = false := by
          by_cases e : s.testBit j = true
          · have := bit_lt (n := 63) hs e; omega
          · simpa using e
        rw [this]
        simp
  · rw [run_low h0 hs (by omega)]
    simp
/-- The runs of a set, rising. -/
def rnsF : Nat → Nat → List (Nat × Nat)
  | 0, _ => []
  | f + 1, s => if s = 0 ∨ s ≤ nx s then [] else (Lib.ctz 64 s, Lib.ctz 64 s + zz s - 1) :: rnsF f (nx s)
def rns (s : Nat) : List (Nat × Nat) := rnsF s s
theorem rnsF_more : ∀ (f g s : Nat), s ≤ f → s ≤ g → rnsF f s = rnsF g s
  | 0, g, s, h1, _ => by
    obtain rfl : s = 0 := by omega
    cases g <;> simp [rnsF]
  | f + 1, 0, s, _, h2 => by
    obtain rfl : s = 0 := by omega
    simp [rnsF]
  | f + 1, g + 1, s, h1, h2 => by
    by_cases c : s = 0 ∨ s ≤ nx s
    · simp [rnsF, c]
    · have := rnsF_more f g (nx s) (by omega) (by omega)
      simp [rnsF, c, this]
theorem rns_zero : rns 0 = [] := rfl
theorem rns_step {s : Nat} (h0 : s ≠ 0) (hs : s < 9223372036854775808) : rns s = (Lib.ctz 64 s, Lib.ctz 64 s + zz s - 1) :: rns (nx s) := by
  have := nx_lt h0 hs
  obtain ⟨k, rfl⟩ : ∃ k, s = k + 1 := ⟨s - 1, by omega⟩
  unfold rns
  rw [rnsF_more k (nx (k + 1)) (nx (k + 1)) (by omega) (Nat.le_refl _) |>.symm]
  show (if k + 1 = 0 ∨ k + 1 ≤ nx (k + 1) then [] else _) = _
  rw [if_neg (by omega)]
theorem rns_len : ∀ (n s p : Nat), s ≤ n → s < 9223372036854775808 → p ≤ 63 → (∀ j, j < p → s.testBit j = false) → p + (rns s).length ≤ 63
  | 0, s, p, hn, _, hp, _ => by
    have : s = 0 := by omega
    subst this
    rw [rns_zero]
    simpa using hp
  | n + 1, s, p, hn, hs, hp, hb => by
    by_cases h0 : s = 0
    · subst h0
      rw [rns_zero]
      simpa using hp
    · have hlt := nx_lt h0 hs
      have hz := zz_pos h0 hs
      have ht := run_top h0 hs
      have hpf : p ≤ Lib.ctz 64 s := by
        rcases Nat.lt_or_ge (Lib.ctz 64 s) p with l | l
        · have := hb _ l
          rw [ctz_bit h0 (by omega)] at this
          cases this
        · exact l
      have ih := rns_len n (nx s) (Lib.ctz 64 s + zz s) (by omega) (by omega) ht (fun j hj => by rw [nx_bit, decide_eq_false (by omega)]; rfl)
      rw [rns_step h0 hs, List.length_cons]
      omega
theorem rns_le {s : Nat} (hs : s < 9223372036854775808) : (rns s).length ≤ 63 := by
  have := rns_len s s 0 (Nat.le_refl _) hs (by omega) (fun j hj => by omega)
  omega

/-- Numbers in decimal digits. -/
def dec (n : Nat) : List UInt8 := if n < 10 then [UInt8.ofNat (48 + n)] else [UInt8.ofNat (48 + n / 10), UInt8.ofNat (48 + n % 10)]
theorem dec_eq {n : Nat} (h : n < 100) : Lib.decDigits n = dec n := by
  unfold dec
  rw [Lib.decDigits]
  split
  · rfl
  · rw [Lib.decDigits, dif_pos (by omega)]
    rfl
theorem dec_num : ∀ n, n < 64 → numO (dec n) = some (n : Int) := by decide
theorem dec_free : ∀ n, n < 64 → (32 : UInt8) ∉ dec n ∧ (44 : UInt8) ∉ dec n ∧ (45 : UInt8) ∉ dec n ∧ (47 : UInt8) ∉ dec n ∧ dec n ≠ [42] ∧ (dec n).length ≤ 2 := by decide
/-- The text of a run. -/
def rtx (p : Nat × Nat) : List UInt8 := if p.1 = p.2 then dec p.1 else dec p.1 ++ 45 :: dec p.2
theorem mem_dec {lo hi n : Nat} (hn : n < 64) (h1 : lo ≤ n) (h2 : n ≤ hi) : memO lo hi (dec n) = some (n : Int) := by
  unfold memO
  rw [dec_num n hn]
  simp only [Option.bind_some]
  rw [if_pos ⟨by omega, by omega⟩]
theorem num_dash {a b : List UInt8} : numO (a ++ 45 :: b) = none := by
  unfold numO
  split
  · rfl
  · have e : nrd (45 :: b) = fun _ => none := by
      funext x
      unfold nrd
      rw [if_neg (by decide)]
    rw [nrd_append, e]
    cases nrd a 0 <;> rfl
theorem one_spn (n : Nat) : spn (n : Int) (n : Int) 1 = 2 ^ n := by
  apply Nat.eq_of_testBit_eq
  intro j
  rw [spn_bit (by omega), Nat.testBit_two_pow]
  congr 1
  apply propext
  constructor
  · rintro ⟨a, b, _⟩; omega
  · intro e; exact ⟨by omega, by omega, Nat.mod_one _⟩
theorem item_rtx {lo hi f t : Nat} (ht : t < 64) (h1 : lo ≤ f) (h2 : f ≤ t) (h3 : t ≤ hi) : itemO lo hi (rtx (f, t)) = some (spn (f : Int) (t : Int) 1) := by
  obtain ⟨_, _, ff45, ff47, ffs, _⟩ := dec_free f (by omega)
  obtain ⟨_, _, ft45, ft47, _, _⟩ := dec_free t ht
  unfold rtx
  by_cases e : f = t
  · subst e
    rw [if_pos rfl, item_one (cut_miss ff47) (mem_dec ht h1 h3), one_spn]
    rfl
  · rw [if_neg e]
    have hk : Lib.cut (dec f ++ 45 :: dec t) [47] = (dec f ++ 45 :: dec t, [], false) := by
      refine cut_miss ?_
      intro hm
      rcases List.mem_append.1 hm with hm | hm
      · exact ff47 hm
      · rcases List.mem_cons.1 hm with hm | hm
        · cases hm
        · exact ft47 hm
    have hm : memO lo hi (dec f ++ 45 :: dec t) = none := by unfold memO; rw [num_dash]; rfl
    rw [item_all hk hm]
    have hne : dec f ++ 45 :: dec t ≠ [42] := by
      intro hx
      have : (45 : UInt8) ∈ ([42] : List UInt8) := by rw [← hx]; simp
      simp at this
    rw [span_two hne (cut_hit ff45), mem_dec (by omega) h1 (by omega), mem_dec ht (by omega) h3]
    simp only [Option.bind_some]
    rw [if_pos (by omega)]
    rfl
theorem rtx_free {f t : Nat} (hf : f < 64) (ht : t < 64) : (32 : UInt8) ∉ rtx (f, t) ∧ (44 : UInt8) ∉ rtx (f, t) ∧ (rtx (f, t)).length ≤ 5 := by
  obtain ⟨a32, a44, _, _, _, al⟩ := dec_free f hf
  obtain ⟨b32, b44, _, _, _, bl⟩ := dec_free t ht
  unfold rtx
  split
  · exact ⟨a32, a44, by show (dec f).length ≤ 5; omega⟩
  · refine ⟨?_, ?_, ?_⟩
    · intro hm
      rcases List.mem_append.1 hm with hm | hm
      · exact a32 hm
      · rcases List.mem_cons.1 hm with hm | hm
        · cases hm
        · exact b32 hm
    · intro hm
      rcases List.mem_append.1 hm with hm | hm
      · exact a44 hm
      · rcases List.mem_cons.1 hm with hm | hm
        · cases hm
        · exact b44 hm
    · simp
      omega
/-- The items of the runs of a set make the set. -/
theorem items_rns {lo hi : Nat} (hh : hi < 63) : ∀ (n s acc : Nat), s ≤ n → s < 9223372036854775808 → (∀ j, s.testBit j = true → lo ≤ j ∧ j ≤ hi) → itemsO lo hi ((rns s).map rtx) acc = some (acc ||| s)
  | 0, s, acc, hn, _, _ => by
    have : s = 0 := by omega
    subst this
    rw [rns_zero]
    simp [itemsO]
  | n + 1, s, acc, hn, hs, hb => by
    by_cases h0 : s = 0
    · subst h0
      rw [rns_zero]
      simp [itemsO]
    · have hlt := nx_lt h0 hs
      have hz := zz_pos h0 hs
      have ht := run_top h0 hs
      have a1 := hb _ (ctz_bit h0 (by omega))
      have a2 := hb _ (run_in (j := Lib.ctz 64 s + zz s - 1) hs (by omega) (by omega))
      rw [rns_step h0 hs, List.map_cons, itemsO, item_rtx (by omega) a1.1 (by omega) a2.2]
      simp only [Option.bind_some]
      rw [items_rns hh n (nx s) _ (by omega) (by omega) (fun j hj => hb j (by rw [nx_bit] at hj; simp at hj; exact hj.2)), Nat.or_assoc, run_or h0 hs]
/-- Pieces that were joined. -/
theorem sp_join {c : UInt8} : ∀ {xs : List (List UInt8)}, xs ≠ [] → (∀ x ∈ xs, c ∉ x) → sp c (Lib.join xs [c]) = xs
  | [], h, _ => absurd rfl h
  | [x], _, h => by rw [Lib.join_one, sp_none (h x (by simp))]
  | x :: y :: r, _, h => by
    have e : Lib.join (x :: y :: r) [c] = x ++ c :: Lib.join (y :: r) [c] := by
      rw [Lib.join_cons, Lib.join_cons]
      simp [Lib.joinTail]
    rw [e, sp_app (h x (by simp)), sp_join (by simp) (fun z hz => h z (by simp at hz ⊢; right; exact hz))]
theorem join_free {c d : UInt8} (hd : d ≠ c) : ∀ {xs : List (List UInt8)}, (∀ x ∈ xs, d ∉ x) → d ∉ Lib.join xs [c]
  | [], _ => by rw [Lib.join_nil]; simp
  | [x], h => by rw [Lib.join_one]; exact h x (by simp)
  | x :: y :: r, h => by
    have e : Lib.join (x :: y :: r) [c] = x ++ c :: Lib.join (y :: r) [c] := by
      rw [Lib.join_cons, Lib.join_cons]
      simp [Lib.joinTail]
    rw [e]
    intro hm
    rcases List.mem_append.1 hm with hm | hm
    · exact h x (by simp) hm
    · rcases List.mem_cons.1 hm with hm | hm
      · exact hd hm
      · exact join_free hd (fun z hz => h z (by simp at hz ⊢; right; exact hz)) hm
theorem join_le {c : UInt8} {m : Nat} : ∀ {xs : List (List UInt8)}, (∀ x ∈ xs, x.length ≤ m) → (Lib.join xs [c]).length ≤ (m + 1) * xs.length
  | [], _ => by rw [Lib.join_nil]; simp
  | [x], h => by rw [Lib.join_one]; have := h x (by simp); simp; omega
  | x :: y :: r, h => by
    have e : Lib.join (x :: y :: r) [c] = x ++ c :: Lib.join (y :: r) [c] := by
      rw [Lib.join_cons, Lib.join_cons]
      simp [Lib.joinTail]
    have h1 := h x (by simp)
    have h2 := join_le (c := c) (m := m) (xs := y :: r) (fun z hz => h z (by simp at hz ⊢; right; exact hz))
    rw [e]
    simp only [List.length_append, List.length_cons] at *
    rw [Nat.mul_add (m + 1) (r.length + 1) 1]
    omega
theorem run_mem : ∀ (n s : Nat), s ≤ n → s < 9223372036854775808 → ∀ p ∈ rns s, p.1 < 64 ∧ p.2 < 64
  | 0, s, hn, _, p, hp => by
    have : s = 0 := by omega
    subst this
    rw [rns_zero] at hp
    cases hp
  | n + 1, s, hn, hs, p, hp => by
    by_cases h0 : s = 0
    · subst h0
      rw [rns_zero] at hp
      cases hp
    · have hlt := nx_lt h0 hs
      have hz := zz_pos h0 hs
      have ht := run_top h0 hs
      rw [rns_step h0 hs] at hp
      rcases List.mem_cons.1 hp with hp | hp
      · subst hp
        exact ⟨by show Lib.ctz 64 s < 64; omega, by show Lib.ctz 64 s + zz s - 1 < 64; omega⟩
      · exact run_mem n (nx s) (by omega) (by omega) p hp
/-- The text of a set. -/
def stx (s all : Nat) : List UInt8 := if s = all then [42] else Lib.join ((rns s).map rtx) [44]
theorem stx_free {s all : Nat} (hs : s < 9223372036854775808) : (32 : UInt8) ∉ stx s all ∧ (stx s all).length ≤ 378 := by
  unfold stx
  split
  · exact ⟨by decide, by decide⟩
  · have hm : ∀ x ∈ (rns s).map rtx, (32 : UInt8) ∉ x ∧ x.length ≤ 5 := by
      intro x hx
      obtain ⟨p, hp, rfl⟩ := List.mem_map.1 hx
      have hb := run_mem s s (Nat.le_refl _) hs p hp
      have := rtx_free hb.1 hb.2
      exact ⟨this.1, this.2.2⟩
    refine ⟨join_free (by decide) (fun x hx => (hm x hx).1), ?_⟩
    have h1 := join_le (c := 44) (m := 5) (fun x hx => (hm x hx).2)
    have h2 := rns_le hs
    rw [List.length_map] at h1
    omega
theorem set_stx {lo hi all s : Nat} (ha : Al all lo hi) (hh : hi < 63) (h0 : s ≠ 0) (hs : s < 9223372036854775808) (hb : ∀ j, s.testBit j = true → lo ≤ j ∧ j ≤ hi) : setO lo hi (stx s all) = some s := by
  unfold stx setO
  by_cases e : s = all
  · rw [if_pos e, show sp 44 [42] = [[42]] from rfl, itemsO, item_all (cut_miss (by decide)) (by unfold memO; rw [show numO [42] = none by decide]; rfl), span_star]
    simp only [Option.map_some, Option.bind_some, itemsO]
    congr 1
    rw [Nat.zero_or, e]
    apply Nat.eq_of_testBit_eq
    intro j
    rw [spn_bit (by omega)]
    by_cases h64 : j < 64
    · rw [ha.bit j h64]
      congr 1
      apply propext
      constructor
      · rintro ⟨a, b, _⟩; omega
      · rintro ⟨a, b⟩; exact ⟨by omega, by omega, Nat.mod_one _⟩
    · rw [decide_eq_false (by omega), Nat.testBit_lt_two_pow (Nat.lt_of_lt_of_le ha.lt (Nat.pow_le_pow_right (n := 2) (by omega) (show 64 ≤ j by omega)))]
  · rw [if_neg e]
    have hne : (rns s).map rtx ≠ [] := by rw [rns_step h0 hs]; simp
    rw [sp_join hne, items_rns hh s s 0 (Nat.le_refl _) hs hb, Nat.zero_or]
    intro x hx
    obtain ⟨p, hp, rfl⟩ := List.mem_map.1 hx
    have hb := run_mem s s (Nat.le_refl _) hs p hp
    exact (rtx_free hb.1 hb.2).2.1
/-- The text of a cron. -/
def prt (c : Cr) : List UInt8 := Lib.join [stx c.mi 1152921504606846975, stx c.ho 16777215, stx c.dm 4294967294, stx c.mo 8190, stx c.dw 127] [32]
/-- What was printed is parsed as it was. -/
theorem prs_prt {c : Cr} (hc : okB c = true) : prsO (prt c) = some c := by
  obtain ⟨a1, a2, b1, b2, d1, d2, d3, e1, e2, e3, g1, g2⟩ := ok_open hc
  have f0 := (in_low (hi := 59) (x := c.mi) (by omega)).2 a2
  have f1 := (in_low (hi := 23) (x := c.ho) (by omega)).2 b2
  have f2 := (in_even (hi := 31) (x := c.dm) (by omega)).2 ⟨d2, d3⟩
  have f3 := (in_even (hi := 12) (x := c.mo) (by omega)).2 ⟨e2, e3⟩
  have f4 := (in_low (hi := 6) (x := c.dw) (by omega)).2 g2
  have wide : ∀ {s lo hi : Nat}, s < 9223372036854775808 → (∀ j, j < 64 → s.testBit j = true → lo ≤ j ∧ j ≤ hi) → ∀ j, s.testBit j = true → lo ≤ j ∧ j ≤ hi := by
    intro s lo hi hs h j hj
    exact h j (by have := bit_lt (n := 63) hs hj; omega) hj
  have e : sp 32 (prt c) = [stx c.mi 1152921504606846975, stx c.ho 16777215, stx c.dm 4294967294, stx c.mo 8190, stx c.dw 127] := by
    unfold prt
    refine sp_join (by simp) ?_
    intro x hx
    simp only [List.mem_cons, List.not_mem_nil, or_false] at hx
    rcases hx with h | h | h | h | h <;> rw [h] <;> exact (stx_free (by omega)).1
  have k0 : fldO (prt c) 0 = some c.mi := by show setO 0 59 ((sp 32 (prt c)).getD 0 []) = _; rw [e]; exact set_stx al0 (by omega) (by omega) (by omega) (wide (by omega) f0)
  have k1 : fldO (prt c) 1 = some c.ho := by show setO 0 23 ((sp 32 (prt c)).getD 1 []) = _; rw [e]; exact set_stx al1 (by omega) (by omega) (by omega) (wide (by omega) f1)
  have k2 : fldO (prt c) 2 = some c.dm := by show setO 1 31 ((sp 32 (prt c)).getD 2 []) = _; rw [e]; exact set_stx al2 (by omega) (by omega) (by omega) (wide (by omega) f2)
  have k3 : fldO (prt c) 3 = some c.mo := by show setO 1 12 ((sp 32 (prt c)).getD 3 []) = _; rw [e]; exact set_stx al3 (by omega) (by omega) (by omega) (wide (by omega) f3)
  have k4 : fldO (prt c) 4 = some c.dw := by show setO 0 6 ((sp 32 (prt c)).getD 4 []) = _; rw [e]; exact set_stx al4 (by omega) (by omega) (by omega) (wide (by omega) f4)
  exact prs_some (by rw [e]; rfl) k0 k1 k2 k3 k4
end Go.Proofs.YthebcdadoinflaaDoor.Crn
