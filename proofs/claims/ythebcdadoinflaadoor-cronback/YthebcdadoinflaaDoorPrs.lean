/- The plain mathematics of reading a cron: pieces between a byte, numbers of one or two digits, items, sets and the whole text. No program is named here. -/
import Derived.Test.YthebcdadoinflaaDoorRmb
import Derived.Test.YthebcdadoinflaaDoorTxt
import Derived.Lib.SplitLaws
import Derived.Lib.Split
import Derived.Lib.CutLaws
import Derived.Lib.BitFns
namespace Go.Proofs.YthebcdadoinflaaDoor.Crn
open Cal Txt

/-- The pieces of a text between a byte. -/
def sp (c : UInt8) : List UInt8 → List (List UInt8)
  | [] => [[]]
  | x :: l => if x = c then [] :: sp c l else (x :: (sp c l).headD []) :: (sp c l).tail
theorem sp_ne (c : UInt8) (l : List UInt8) : ∃ h t, sp c l = h :: t := by
  cases l with
  | nil => exact ⟨[], [], rfl⟩
  | cons x l =>
    unfold sp
    split
    · exact ⟨_, _, rfl⟩
    · exact ⟨_, _, rfl⟩
theorem sp_app {c : UInt8} : ∀ {a b : List UInt8}, c ∉ a → sp c (a ++ c :: b) = a :: sp c b
  | [], b, _ => by simp [sp]
  | x :: a, b, h => by
    have hx : x ≠ c := fun e => h (by simp [e])
    have ha : c ∉ a := fun e => h (by simp [e])
    rw [List.cons_append, sp, if_neg hx, sp_app ha]
    rfl
theorem sp_none {c : UInt8} : ∀ {a : List UInt8}, c ∉ a → sp c a = [a]
  | [], _ => rfl
  | x :: a, h => by
    have hx : x ≠ c := fun e => h (by simp [e])
    have ha : c ∉ a := fun e => h (by simp [e])
    rw [sp, if_neg hx, sp_none ha]
    rfl
theorem occ_one (l : List UInt8) (c : UInt8) (i : Nat) (hi : i < l.length) : Lib.occAt l [c] i = (l[i] == c) := by
  rw [Lib.occAt_iff_take l [c] i (by show i + 1 ≤ l.length; omega), List.drop_eq_getElem_cons hi]
  show ((l[i] == c) && true) = _
  rw [Bool.and_true]
theorem idx_hit {c : UInt8} {a b : List UInt8} (h : c ∉ a) : Lib.index (a ++ c :: b) [c] = (a.length : Nat) := by
  refine Lib.index_first (by simp) ?_ ?_
  · rw [occ_one _ _ _ (by simp)]
    simp
  · intro j hj
    rw [occ_one _ _ _ (by simp; omega), List.getElem_append_left hj]
    have : a[j] ≠ c := fun e => h (e ▸ List.getElem_mem hj)
    simpa using this
theorem idx_miss {c : UInt8} {l : List UInt8} (h : c ∉ l) : Lib.index l [c] = -1 := by
  refine Lib.index_none ?_
  intro j _
  by_cases hl : j < l.length
  · rw [occ_one _ _ _ hl]
    have : l[j] ≠ c := fun e => h (e ▸ List.getElem_mem hl)
    simpa using this
  · by_cases e : Lib.occAt l [c] j = true
    · rcases Lib.occAt_room e with r | r
      · simp at r; omega
      · cases r
    · simpa using e
theorem split_sp (c : UInt8) : ∀ (n : Nat) (l : List UInt8), l.length ≤ n → Lib.splitK [c] 0 (l.count c) l = sp c l
  | 0, l, h => by
    have : l = [] := List.eq_nil_of_length_eq_zero (by omega)
    subst this
    rfl
  | n + 1, l, h => by
    by_cases hc : c ∈ l
    · obtain ⟨a, b, rfl, ha⟩ := List.eq_append_cons_of_mem hc
      have e0 : (a ++ c :: b).count c = b.count c + 1 := by
        rw [List.count_append, List.count_eq_zero_of_not_mem ha, List.count_cons_self]
        omega
      have hi := idx_hit (b := b) ha
      have hne : (Lib.index (a ++ c :: b) [c] == -1) = false := by rw [hi]; simp
      have hd : (a ++ c :: b).drop (a.length + 1) = b := by rw [List.append_cons, List.drop_left' (by simp)]
      rw [e0, Lib.splitK, hne, hi, sp_app ha]
      simp at h
      have ih := split_sp c n b (by omega)
      simp [ih, hd]
    · rw [List.count_eq_zero_of_not_mem hc, sp_none hc]
      rfl
theorem cut_hit {c : UInt8} {a b : List UInt8} (h : c ∉ a) : Lib.cut (a ++ c :: b) [c] = (a, b, true) := by
  unfold Lib.cut
  have hd : (a ++ c :: b).drop (a.length + 1) = b := by rw [List.append_cons, List.drop_left' (by simp)]
  rw [idx_hit h, if_pos (by omega)]
  simp [hd]
theorem cut_miss {c : UInt8} {l : List UInt8} (h : c ∉ l) : Lib.cut l [c] = (l, [], false) := by
  unfold Lib.cut
  rw [idx_miss h, if_neg (by omega)]

theorem cut_len {l a b : List UInt8} {c : UInt8} {st : Bool} (h : Lib.cut l [c] = (a, b, st)) : a.length ≤ l.length := by
  unfold Lib.cut at h
  split at h
  · simp only [Prod.mk.injEq] at h
    rw [← h.1]
    simp
    omega
  · simp only [Prod.mk.injEq] at h
    rw [← h.1]
    omega

/-- A NUMBER: one or two digits, without a 0 ahead of another one. -/
def numO (l : List UInt8) : Option Int := if l = [] ∨ 2 < l.length ∨ (1 < l.length ∧ l.getD 0 0 = 48) then none else nrd l 0
theorem num_ge {l : List UInt8} {n : Int} (h : numO l = some n) : 0 ≤ n ∧ n ≤ 99 := by
  unfold numO at h
  split at h
  · cases h
  · next hn =>
    have := nrd_bd l 0 n 2 (by omega) (by omega) h
    omega
/-- A set of all numbers from one to another. -/
structure Al (all lo hi : Nat) : Prop where
  lt : all < 18446744073709551616
  bit : ∀ j, j < 64 → all.testBit j = decide (lo ≤ j ∧ j ≤ hi)
  ctz : Lib.ctz 64 all = lo
  len : Lib.bitLen all = hi + 1
  top : hi < 64
  low : lo ≤ hi
  nz : all ≠ 0
theorem al0 : Al 1152921504606846975 0 59 := ⟨by omega, by decide, by decide, by decide, by omega, by omega, by omega⟩
theorem al1 : Al 16777215 0 23 := ⟨by omega, by decide, by decide, by decide, by omega, by omega, by omega⟩
theorem al2 : Al 4294967294 1 31 := ⟨by omega, by decide, by decide, by decide, by omega, by omega, by omega⟩
theorem al3 : Al 8190 1 12 := ⟨by omega, by decide, by decide, by decide, by omega, by omega, by omega⟩
theorem al4 : Al 127 0 6 := ⟨by omega, by decide, by decide, by decide, by omega, by omega, by omega⟩
theorem Al.at {all lo hi : Nat} (h : Al all lo hi) {n : Int} (h0 : 0 ≤ n) : all.testBit n.toNat = decide ((lo : Int) ≤ n ∧ n ≤ hi) := by
  by_cases e : n < 64
  · rw [h.bit _ (by omega)]
    congr 1
    apply propext
    constructor
    · rintro ⟨a, b⟩; exact ⟨by omega, by omega⟩
    · rintro ⟨a, b⟩; exact ⟨by omega, by omega⟩
  · have ht := h.top
    rw [decide_eq_false (by omega)]
    exact Nat.testBit_lt_two_pow (Nat.lt_of_lt_of_le h.lt (Nat.pow_le_pow_right (n := 2) (by omega) (show 64 ≤ n.toNat by omega)))
/-- A NUMBER of a set's. -/
def memO (lo hi : Nat) (l : List UInt8) : Option Int := (numO l).bind fun n => if (lo : Int) ≤ n ∧ n ≤ hi then some n else none
theorem mem_open {lo hi : Nat} {l : List UInt8} {n : Int} (h : memO lo hi l = some n) : numO l = some n ∧ ((lo : Int) ≤ n ∧ n ≤ hi) := by
  unfold memO at h
  cases e : numO l with
  | none => rw [e] at h; cases h
  | some v =>
    rw [e] at h
    simp only [Option.bind_some] at h
    split at h
    · next hb => cases h; exact ⟨rfl, hb⟩
    · cases h
theorem mem_not {lo hi : Nat} {l : List UInt8} {n : Int} (h : memO lo hi l = none) (hn : numO l = some n) : ¬ ((lo : Int) ≤ n ∧ n ≤ hi) := by
  unfold memO at h
  rw [hn] at h
  simp only [Option.bind_some] at h
  split at h
  · cases h
  · next hb => exact hb

/-- The set of the numbers from one on, each so many farther. -/
def spnK (f s : Nat) : Nat → Nat
  | 0 => 0
  | k + 1 => if k % s = 0 then spnK f s k ||| 2 ^ (f + k) else spnK f s k
theorem spnK_bit (f s : Nat) : ∀ (k j : Nat), (spnK f s k).testBit j = decide (f ≤ j ∧ j < f + k ∧ (j - f) % s = 0)
  | 0, j => by
    have : ¬ (f ≤ j ∧ j < f + 0 ∧ (j - f) % s = 0) := by omega
    rw [decide_eq_false this]
    simp [spnK]
  | k + 1, j => by
    unfold spnK
    split
    · next h =>
      rw [Nat.testBit_or, spnK_bit f s k j, Nat.testBit_two_pow]
      by_cases e : f + k = j
      · have hj : j - f = k := by omega
        have a1 : (f ≤ j ∧ j < f + (k + 1) ∧ (j - f) % s = 0) := ⟨by omega, by omega, by rw [hj]; exact h⟩
        rw [decide_eq_true e, decide_eq_true a1]
        simp
      · rw [decide_eq_false e, Bool.or_false]
        congr 1
        apply propext
        constructor
        · rintro ⟨a, b, c⟩; exact ⟨a, by omega, c⟩
        · rintro ⟨a, b, c⟩; exact ⟨a, by omega, c⟩
    · next h =>
      rw [spnK_bit f s k j]
      congr 1
      apply propext
      constructor
      · rintro ⟨a, b, c⟩; exact ⟨a, by omega, c⟩
      · rintro ⟨a, b, c⟩
        refine ⟨a, ?_, c⟩
        rcases (show j < f + k ∨ j = f + k by omega) with l | l
        · exact l
        · exfalso
          rw [show j - f = k by omega] at c
          exact h c
def spn (f t s : Int) : Nat := spnK f.toNat s.toNat (t + 1 - f).toNat
theorem spn_bit {f t s : Int} (h0 : 0 ≤ f) (j : Nat) : (spn f t s).testBit j = decide (f ≤ j ∧ (j : Int) ≤ t ∧ (j - f.toNat) % s.toNat = 0) := by
  unfold spn
  rw [spnK_bit]
  congr 1
  apply propext
  constructor
  · rintro ⟨a, b, c⟩; exact ⟨by omega, by omega, c⟩
  · rintro ⟨a, b, c⟩; exact ⟨by omega, by omega, c⟩
theorem spn_lt {f t s : Int} (h0 : 0 ≤ f) (ht : t < 64) : spn f t s < 18446744073709551616 := by
  apply Nat.lt_pow_two_of_testBit (n := 64)
  intro i hi
  rw [spn_bit h0]
  exact decide_eq_false (by omega)

theorem mod_far {a b s : Nat} (ha : a % s = 0) (h1 : a < b) (h2 : b < a + s) : ¬ b % s = 0 := by
  intro hb
  have e : b = a + (b - a) := by omega
  rw [e, Nat.add_mod, ha, Nat.zero_add, Nat.mod_mod, Nat.mod_eq_of_lt (by omega)] at hb
  omega
/-- One number more, and those behind it that are none. -/
theorem spn_step {f n s : Int} (h0 : 0 ≤ f) (h1 : f ≤ n) (hs : 1 ≤ s) (hm : (n.toNat - f.toNat) % s.toNat = 0) : spn f (n + s - 1) s = spn f (n - 1) s ||| 2 ^ n.toNat := by
  apply Nat.eq_of_testBit_eq
  intro j
  rw [Nat.testBit_or, spn_bit h0, spn_bit h0, Nat.testBit_two_pow]
  by_cases e : n.toNat = j
  · subst e
    rw [decide_eq_true ⟨by omega, by omega, hm⟩]
    simp
  · rw [decide_eq_false e, Bool.or_false]
    congr 1
    apply propext
    constructor
    · rintro ⟨a, b, c⟩
      refine ⟨a, ?_, c⟩
      rcases (show (j : Int) ≤ n - 1 ∨ n < j by omega) with l | l
      · exact l
      · exact absurd c (mod_far hm (by omega) (by omega))
    · rintro ⟨a, b, c⟩
      exact ⟨a, by omega, c⟩
theorem spn_end {f t n s : Int} (h0 : 0 ≤ f) (h1 : f ≤ n) (hs : 1 ≤ s) (hm : (n.toNat - f.toNat) % s.toNat = 0) (h2 : t < n) (h3 : n ≤ t + s) : spn f (n - 1) s = spn f t s := by
  apply Nat.eq_of_testBit_eq
  intro j
  rw [spn_bit h0, spn_bit h0]
  congr 1
  apply propext
  constructor
  · rintro ⟨a, b, c⟩
    refine ⟨a, ?_, c⟩
    rcases (show (j : Int) ≤ t ∨ t < j by omega) with l | l
    · exact l
    · exfalso
      exact absurd hm (mod_far c (by omega) (by omega))
  · rintro ⟨a, b, c⟩
    exact ⟨a, by omega, c⟩
theorem spn_start {f s : Int} (h0 : 0 ≤ f) : spn f (f - 1) s = 0 := by
  apply Nat.eq_of_testBit_eq
  intro j
  rw [spn_bit h0, decide_eq_false (by omega)]
  simp
theorem mod_next {f n s : Int} (h0 : 0 ≤ f) (h1 : f ≤ n) (hs : 1 ≤ s) (hm : (n.toNat - f.toNat) % s.toNat = 0) : ((n + s).toNat - f.toNat) % s.toNat = 0 := by
  rw [show (n + s).toNat - f.toNat = (n.toNat - f.toNat) + s.toNat by omega, Nat.add_mod_right]
  exact hm

/-- What a step may stand behind. -/
def spanO (lo hi : Nat) (l : List UInt8) : Option (Int × Int) :=
  if l = [42] then some ((lo : Int), (hi : Int))
  else (memO lo hi (Lib.cut l [45]).1).bind fun f => (memO lo hi (Lib.cut l [45]).2.1).bind fun t => if f ≤ t then some (f, t) else none
/-- An item. -/
def itemO (lo hi : Nat) (l : List UInt8) : Option Nat :=
  if (Lib.cut l [47]).2.2 = false ∧ (memO lo hi (Lib.cut l [47]).1).isSome then (memO lo hi (Lib.cut l [47]).1).map fun n => 2 ^ n.toNat
  else (spanO lo hi (Lib.cut l [47]).1).bind fun p => if (Lib.cut l [47]).2.2 = false then some (spn p.1 p.2 1) else (numO (Lib.cut l [47]).2.1).bind fun s => if s = 0 then none else some (spn p.1 p.2 s)
/-- Items, one behind another. -/
def itemsO (lo hi : Nat) : List (List UInt8) → Nat → Option Nat
  | [], acc => some acc
  | x :: xs, acc => (itemO lo hi x).bind fun v => itemsO lo hi xs (acc ||| v)
def setO (lo hi : Nat) (l : List UInt8) : Option Nat := itemsO lo hi (sp 44 l) 0
theorem items_snoc (lo hi : Nat) : ∀ (xs : List (List UInt8)) (x : List UInt8) (a : Nat), itemsO lo hi (xs ++ [x]) a = (itemsO lo hi xs a).bind fun v => (itemO lo hi x).map fun u => v ||| u
  | [], x, a => by
    simp only [List.nil_append, itemsO, Option.bind_some]
    cases itemO lo hi x <;> rfl
  | y :: xs, x, a => by
    rw [List.cons_append, itemsO, itemsO]
    cases e : itemO lo hi y with
    | none => rfl
    | some v => simp only [Option.bind_some]; exact items_snoc lo hi xs x (a ||| v)
theorem items_none (lo hi : Nat) : ∀ (xs ys : List (List UInt8)) (a : Nat), itemsO lo hi xs a = none → itemsO lo hi (xs ++ ys) a = none
  | [], _, _, h => by cases h
  | y :: xs, ys, a, h => by
    rw [List.cons_append, itemsO]
    rw [itemsO] at h
    cases e : itemO lo hi y with
    | none => rfl
    | some v =>
      rw [e] at h
      simp only [Option.bind_some] at *
      exact items_none lo hi xs ys (a ||| v) h
/-- What spans, and items, are. -/
theorem span_star (lo hi : Nat) : spanO lo hi [42] = some ((lo : Int), (hi : Int)) := by unfold spanO; rw [if_pos rfl]
theorem span_two {lo hi : Nat} {l a b : List UInt8} {st : Bool} (h : l ≠ [42]) (hk : Lib.cut l [45] = (a, b, st)) : spanO lo hi l = (memO lo hi a).bind fun f => (memO lo hi b).bind fun t => if f ≤ t then some (f, t) else none := by
  unfold spanO; rw [if_neg h, hk]
theorem span_in {lo hi : Nat} {l : List UInt8} {f t : Int} (h : spanO lo hi l = some (f, t)) (hlh : lo ≤ hi) : (lo : Int) ≤ f ∧ f ≤ t ∧ t ≤ hi := by
  by_cases e : l = [42]
  · subst e
    rw [span_star] at h
    simp only [Option.some.injEq, Prod.mk.injEq] at h
    omega
  · obtain ⟨a, b, st, hk⟩ : ∃ a b st, Lib.cut l [45] = (a, b, st) := ⟨_, _, _, rfl⟩
    rw [span_two e hk] at h
    cases h1 : memO lo hi a with
    | none => rw [h1] at h; cases h
    | some x =>
      cases h2 : memO lo hi b with
      | none => rw [h1, h2] at h; cases h
      | some y =>
        rw [h1, h2] at h
        simp only [Option.bind_some] at h
        split at h
        · next hl =>
          simp only [Option.some.injEq, Prod.mk.injEq] at h
          have a1 := (mem_open h1).2
          have a2 := (mem_open h2).2
          omega
        · cases h
theorem item_one {lo hi : Nat} {l a b : List UInt8} {n : Int} (hk : Lib.cut l [47] = (a, b, false)) (hm : memO lo hi a = some n) : itemO lo hi l = some (2 ^ n.toNat) := by
  unfold itemO; rw [hk]; simp [hm]
theorem item_all {lo hi : Nat} {l a b : List UInt8} (hk : Lib.cut l [47] = (a, b, false)) (hm : memO lo hi a = none) : itemO lo hi l = (spanO lo hi a).map fun p => spn p.1 p.2 1 := by
  unfold itemO; rw [hk]; simp [hm]; cases spanO lo hi a <;> rfl
theorem item_step {lo hi : Nat} {l a b : List UInt8} (hk : Lib.cut l [47] = (a, b, true)) : itemO lo hi l = (spanO lo hi a).bind fun p => (numO b).bind fun s => if s = 0 then none else some (spn p.1 p.2 s) := by
  unfold itemO; rw [hk]; simp
end Go.Proofs.YthebcdadoinflaaDoor.Crn
