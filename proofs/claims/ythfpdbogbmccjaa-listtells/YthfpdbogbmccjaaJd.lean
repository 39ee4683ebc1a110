/- Mathematics of the least span: sets of jobs as numbers, ways of giving a set to some hands, and what is least. No program is named here. -/
import Derived.Test.YthfpdbogbmccjaaJm
namespace Go.Proofs.Ythfpdbogbmccjaa
set_option linter.unusedSectionVars false
set_option linter.unusedVariables false

/-! ### Sets as numbers -/
def ba (p : Nat → Bool) : Nat → Nat
  | 0 => 0
  | n + 1 => ba p n + (if p n then 2 ^ n else 0)
theorem ba_lt (p : Nat → Bool) (n : Nat) : ba p n < 2 ^ n := by
  induction n with
  | zero => exact Nat.zero_lt_one
  | succ n ih => rw [ba, Nat.pow_succ]; split <;> omega
theorem ba_bit (p : Nat → Bool) (n j : Nat) : (ba p n).testBit j = (decide (j < n) && p j) := by
  induction n with
  | zero => simp [ba]
  | succ n ih =>
    rw [ba]
    cases hp : p n with
    | false =>
      rw [if_neg (by decide), Nat.add_zero, ih]
      by_cases e : j = n
      · subst e; rw [hp]; simp
      · congr 1; rw [decide_eq_decide]; omega
    | true =>
      rw [if_pos rfl, Nat.add_comm]
      by_cases e : j = n
      · subst e
        rw [Nat.testBit_two_pow_add_eq, ih, hp]
        simp
      · by_cases h2 : j < n
        · rw [Nat.testBit_two_pow_add_gt h2, ih]; simp [h2, Nat.lt_succ_of_lt h2]
        · rw [Nat.testBit_lt_two_pow]
          · simp; omega
          · have h3 : 2 ^ (n + 1) ≤ 2 ^ j := Nat.pow_le_pow_right (by omega) (by omega)
            have h4 := ba_lt p n
            rw [Nat.pow_succ] at h3
            omega
theorem ba_eq {x n : Nat} (hx : x < 2 ^ n) : ba x.testBit n = x := by
  apply Nat.eq_of_testBit_eq
  intro j
  rw [ba_bit]
  by_cases hj : j < n
  · simp [hj]
  · rw [Nat.testBit_lt_two_pow (Nat.lt_of_lt_of_le hx (Nat.pow_le_pow_right (by omega) (by omega)))]
    simp
theorem ba_congr {p q : Nat → Bool} : ∀ {n : Nat}, (∀ j, j < n → p j = q j) → ba p n = ba q n := by
  intro n
  induction n with
  | zero => intro _; rfl
  | succ n ih => intro h; rw [ba, ba, ih fun j hj => h j (by omega), h n (by omega)]
theorem ba_add {p q : Nat → Bool} : ∀ {n : Nat}, (∀ j, j < n → q j = true → p j = true) → ba p n = ba q n + ba (fun j => p j && !q j) n := by
  intro n
  induction n with
  | zero => intro _; rfl
  | succ n ih =>
    intro h
    rw [ba, ba, ba, ih fun j hj => h j (by omega)]
    have := h n (by omega)
    cases hq : q n <;> cases hp : p n <;> simp_all <;> omega
/-- q is a part of s. -/
def Sub (q s : Nat) : Prop := q &&& s = q
theorem Sub.bit {q s : Nat} (h : Sub q s) (j : Nat) (hj : q.testBit j = true) : s.testBit j = true := by
  have h2 : (q &&& s).testBit j = q.testBit j := by rw [h]
  rw [Nat.testBit_and, hj] at h2
  simpa using h2
theorem sub_of {q s : Nat} (h : ∀ j, q.testBit j = true → s.testBit j = true) : Sub q s := by
  apply Nat.eq_of_testBit_eq
  intro j
  rw [Nat.testBit_and]
  cases hq : q.testBit j
  · rfl
  · rw [h j hq]; rfl
theorem Sub.le {q s : Nat} (h : Sub q s) : q ≤ s := by
  have h2 : q &&& s ≤ s := Nat.and_le_right
  rw [h] at h2
  exact h2
theorem sub_self (s : Nat) : Sub s s := Nat.and_self s
theorem sub_and (p s : Nat) : Sub (p &&& s) s := sub_of fun j hj => by
  rw [Nat.testBit_and] at hj
  simp at hj
  exact hj.2
theorem sub_bit {q s n : Nat} (h : Sub q s) (hs : s < 2 ^ n) (j : Nat) : (s - q).testBit j = (s.testBit j && !q.testBit j) := by
  have hq : q < 2 ^ n := Nat.lt_of_le_of_lt h.le hs
  have e := ba_add (p := s.testBit) (q := q.testBit) (n := n) fun j _ hj => h.bit j hj
  rw [ba_eq hs, ba_eq hq] at e
  have e2 : s - q = ba (fun j => s.testBit j && !q.testBit j) n := by omega
  rw [e2, ba_bit]
  by_cases hj : j < n
  · simp [hj]
  · rw [Nat.testBit_lt_two_pow (Nat.lt_of_lt_of_le hs (Nat.pow_le_pow_right (by omega) (by omega)))]
    simp
theorem half_sub {q s : Nat} (h : Sub q s) : Sub (q / 2) (s / 2) := sub_of fun j hj => by
  rw [← Nat.testBit_succ] at hj ⊢
  exact h.bit _ hj
/-- The parts of a set, downward: none is passed by. -/
theorem sub_next : ∀ (N p q s : Nat), p ≤ N → Sub p s → Sub q s → q < p → q ≤ (p - 1) &&& s := by
  intro N
  induction N with
  | zero => intro p q s hN _ _ h; omega
  | succ N ih =>
    intro p q s hN hp hq hlt
    have key : ∀ a b : Nat, (a &&& b) = 2 * ((a / 2) &&& (b / 2)) + (a % 2) * (b % 2) := fun a b => by
      have h1 : (a &&& b) / 2 = (a / 2) &&& (b / 2) := Nat.and_div_two
      have h2 : (a &&& b) % 2 = (a % 2) * (b % 2) := by
        have h3 := Nat.testBit_and a b 0
        simp only [Nat.testBit_zero] at h3
        rcases Nat.mod_two_eq_zero_or_one a with ha | ha <;> rcases Nat.mod_two_eq_zero_or_one b with hb | hb <;> rcases Nat.mod_two_eq_zero_or_one (a &&& b) with hc | hc <;> rw [ha, hb, hc] at h3 <;> rw [ha, hb, hc] <;> simp at h3 ⊢
      omega
    have b0 : ∀ a : Nat, Sub a s → a % 2 = 1 → s % 2 = 1 := fun a ha h1 => by
      have := ha.bit 0 (by rw [Nat.testBit_zero]; simp [h1])
      rw [Nat.testBit_zero] at this
      simpa using this
    rw [key]
    rcases Nat.mod_two_eq_zero_or_one p with h0 | h1
    · have e1 : (p - 1) / 2 = p / 2 - 1 := by omega
      have e2 : (p - 1) % 2 = 1 := by omega
      have h3 := ih (p / 2) (q / 2) (s / 2) (by omega) (half_sub hp) (half_sub hq) (by omega)
      rw [e1, e2]
      rcases Nat.mod_two_eq_zero_or_one q with hq0 | hq1
      · have := Nat.zero_le (1 * (s % 2)); omega
      · rw [b0 q hq hq1]; omega
    · have e1 : (p - 1) / 2 = p / 2 := by omega
      have e3 : (p / 2) &&& (s / 2) = p / 2 := half_sub hp
      rw [e1, e3]
      have := Nat.zero_le ((p - 1) % 2 * (s % 2))
      omega

/-! ### Ways -/
/-- What hand b works of the set S, where job i is on hand f i. -/
def ldF (l : List Int) (f : Nat → Nat) (S b : Nat) : Int := sumF (fun i => if S.testBit i = true ∧ f i = b then nm l i else 0) l.length
/-- What the set S takes on one hand. -/
def aln (l : List Int) (S : Nat) : Int := sumF (fun i => if S.testBit i = true then nm l i else 0) l.length
def Way (l : List Int) (h S : Nat) (v : Int) : Prop := ∃ f : Nat → Nat, (∀ i, i < l.length → f i < h) ∧ ∀ b, b < h → ldF l f S b ≤ v
def Lo (l : List Int) (h S : Nat) (v : Int) : Prop := ∀ f : Nat → Nat, (∀ i, i < l.length → f i < h) → ∀ T, (∀ b, b < h → ldF l f S b ≤ T) → v ≤ T
theorem sumF_nonneg {E : Nat → Int} {m : Nat} (h : ∀ b, b < m → 0 ≤ E b) : 0 ≤ sumF E m := by
  have := sumF_ge h
  rwa [Int.mul_zero] at this
theorem ldF_nonneg {l : List Int} (hl : ∀ x ∈ l, 0 ≤ x) (f : Nat → Nat) (S b : Nat) : 0 ≤ ldF l f S b := sumF_nonneg fun i hi => by
  show 0 ≤ if _ then nm l i else 0
  split
  · exact hl _ (nm_mem hi)
  · exact Int.le_refl _
theorem aln_nonneg {l : List Int} (hl : ∀ x ∈ l, 0 ≤ x) (S : Nat) : 0 ≤ aln l S := sumF_nonneg fun i hi => by
  show 0 ≤ if _ then nm l i else 0
  split
  · exact hl _ (nm_mem hi)
  · exact Int.le_refl _
theorem aln_zero (l : List Int) : aln l 0 = 0 := sumF_zero fun i _ => by simp
theorem way_one (l : List Int) (S : Nat) : Way l 1 S (aln l S) := ⟨fun _ => 0, fun i _ => Nat.zero_lt_one, fun b hb => by
  have e : b = 0 := by omega
  subst e
  exact Int.le_of_eq (sumF_congr fun i _ => by simp)⟩
theorem lo_one (l : List Int) (S : Nat) : Lo l 1 S (aln l S) := fun f hf T hT => by
  have h := hT 0 Nat.zero_lt_one
  refine Int.le_trans (Int.le_of_eq ?_) h
  refine sumF_congr fun i hi => ?_
  have e : f i = 0 := by have := hf i hi; omega
  simp [e]
theorem Way.up {l : List Int} (hl : ∀ x ∈ l, 0 ≤ x) {h S : Nat} {v : Int} (hh : 1 ≤ h) (hw : Way l h S v) : Way l (h + 1) S v := by
  obtain ⟨f, hf, hv⟩ := hw
  refine ⟨f, fun i hi => by have := hf i hi; omega, fun b hb => ?_⟩
  by_cases e : b = h
  · have h0 : ldF l f S b = 0 := sumF_zero fun i hi => by
      have := hf i hi
      show (if _ then nm l i else 0) = 0
      rw [if_neg (fun x => by omega)]
    rw [h0]
    exact Int.le_trans (ldF_nonneg hl f S 0) (hv 0 (by omega))
  · exact hv b (by omega)
theorem Way.more {l : List Int} {h S : Nat} {v v' : Int} (hw : Way l h S v) (hv : v ≤ v') : Way l h S v' := by
  obtain ⟨f, hf, h2⟩ := hw
  exact ⟨f, hf, fun b hb => Int.le_trans (h2 b hb) hv⟩
theorem Way.part {l : List Int} {h S q : Nat} {v : Int} (hS : S < 2 ^ l.length) (hq : Sub q S) (hw : Way l h (S - q) v) : Way l (h + 1) S (max (aln l q) v) := by
  obtain ⟨f, hf, hv⟩ := hw
  refine ⟨fun i => if q.testBit i = true then h else f i, fun i hi => ?_, fun b hb => ?_⟩
  · show (if _ then h else f i) < h + 1
    split
    · omega
    · have := hf i hi; omega
  · by_cases e : b = h
    · refine Int.le_trans (Int.le_of_eq ?_) (Int.le_max_left _ _)
      refine sumF_congr fun i hi => ?_
      show (if S.testBit i = true ∧ (if q.testBit i = true then h else f i) = b then nm l i else 0) = if q.testBit i = true then nm l i else 0
      by_cases hqi : q.testBit i = true
      · rw [if_pos hqi, if_pos hqi, if_pos ⟨hq.bit i hqi, e.symm⟩]
      · rw [if_neg hqi, if_neg hqi, if_neg (fun x => by have := hf i hi; omega)]
    · refine Int.le_trans (Int.le_trans (Int.le_of_eq ?_) (hv b (by omega))) (Int.le_max_right _ _)
      refine sumF_congr fun i hi => ?_
      show (if S.testBit i = true ∧ (if q.testBit i = true then h else f i) = b then nm l i else 0) = if (S - q).testBit i = true ∧ f i = b then nm l i else 0
      rw [sub_bit hq hS]
      by_cases hqi : q.testBit i = true
      · rw [if_pos hqi, if_neg (fun x => e x.2.symm), if_neg (fun x => by simp [hqi] at x)]
      · rw [if_neg hqi]
        have e2 : (S.testBit i && !q.testBit i) = S.testBit i := by simp [hqi]
        rw [e2]
theorem Lo.next {l : List Int} {h S : Nat} {v : Int} {E : Nat → Int} (hS : S < 2 ^ l.length) (hh : 1 ≤ h) (hE : ∀ q, q ≤ S → Lo l h q (E q)) (h0 : v ≤ E S) (hv : ∀ q, q ≠ 0 → Sub q S → v ≤ max (aln l q) (E (S - q))) : Lo l (h + 1) S v := by
  intro f hf T hT
  have hf' : ∀ i, i < l.length → (if f i = h then 0 else f i) < h := fun i hi => by
    have := hf i hi
    split <;> omega
  have hq : Sub (ba (fun i => S.testBit i && decide (f i = h)) l.length) S := sub_of fun j hj => by
    rw [ba_bit] at hj
    simp at hj
    exact hj.2.1
  have hb : ∀ i, i < l.length → (ba (fun i => S.testBit i && decide (f i = h)) l.length).testBit i = (S.testBit i && decide (f i = h)) := fun i hi => by rw [ba_bit]; simp [hi]
  generalize ba (fun i => S.testBit i && decide (f i = h)) l.length = q at *
  have hl2 : ∀ b, b < h → ldF l (fun i => if f i = h then 0 else f i) (S - q) b ≤ T := fun b hbh => by
    refine Int.le_trans (Int.le_of_eq ?_) (hT b (by omega))
    refine sumF_congr fun i hi => ?_
    show (if (S - q).testBit i = true ∧ (if f i = h then 0 else f i) = b then nm l i else 0) = if S.testBit i = true ∧ f i = b then nm l i else 0
    rw [sub_bit hq hS, hb i hi]
    by_cases e : f i = h
    · rw [if_neg (fun x => by simp [e] at x), if_neg (fun x => by omega)]
    · rw [if_neg e]
      have e2 : (S.testBit i && !(S.testBit i && decide (f i = h))) = S.testBit i := by simp [e]
      rw [e2]
  have h2 := hE (S - q) (Nat.sub_le _ _) _ hf' T hl2
  by_cases e : q = 0
  · subst e
    rw [Nat.sub_zero] at h2
    exact Int.le_trans h0 h2
  · refine Int.le_trans (hv q e hq) (Int.max_le.2 ⟨?_, h2⟩)
    refine Int.le_trans (Int.le_of_eq ?_) (hT h (Nat.lt_succ_self h))
    refine sumF_congr fun i hi => ?_
    rw [hb i hi]
    by_cases e : f i = h
    · simp [e]
    · simp [e]

/-! ### What it comes to -/
theorem full_bit {n i : Nat} (hi : i < n) : (2 ^ n - 1).testBit i = true := by
  rw [Nat.testBit_two_pow_sub_one]
  exact decide_eq_true hi
/-- On no hands is all done earlier. -/
theorem lo_all {l : List Int} {m : Nat} {v : Int} (h : Lo l m (2 ^ l.length - 1) v) {on : Nat → Int} (hon : ∀ i, i < l.length → 0 ≤ on i ∧ on i < (m : Int)) (hm : 1 ≤ m) : v ≤ xm (spF l on l.length) m := by
  refine h (fun i => (on i).toNat) (fun i hi => by have := hon i hi; show (on i).toNat < m; omega) _ fun b hb => ?_
  refine Int.le_trans (Int.le_of_eq ?_) (xm_ge _ b hb)
  rw [spF_sum]
  refine sumF_congr fun i hi => ?_
  simp only [full_bit hi, true_and]
theorem sumF_swap (E : Nat → Nat → Int) (n : Nat) : ∀ m, sumF (fun b => sumF (fun i => E b i) n) m = sumF (fun i => sumF (fun b => E b i) m) n := by
  intro m
  induction m with
  | zero => exact (sumF_zero fun _ _ => rfl).symm
  | succ m ih =>
    rw [sumF, ih, ← sumF_add]
    exact sumF_congr fun i _ => rfl
theorem ld_tot {l : List Int} {f : Nat → Nat} {m : Nat} (hf : ∀ i, i < l.length → f i < m) : sumF (fun b => ldF l f (2 ^ l.length - 1) b) m = sumR l := by
  unfold ldF
  rw [sumF_swap, sumR_all]
  refine sumF_congr fun i hi => ?_
  rw [sumF_congr (E' := fun b => if f i = b then nm l i else 0) fun b _ => by simp only [full_bit hi, true_and], sumF_one, if_pos (hf i hi)]
theorem way_sum {l : List Int} {m : Nat} {v : Int} (h : Way l m (2 ^ l.length - 1) v) : sumR l ≤ (m : Int) * v := by
  obtain ⟨f, hf, hv⟩ := h
  rw [← ld_tot hf]
  exact sumF_le hv
end Go.Proofs.Ythfpdbogbmccjaa
