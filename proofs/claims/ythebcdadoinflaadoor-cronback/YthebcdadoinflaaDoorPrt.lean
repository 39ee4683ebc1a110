/- The plain mathematics of reading a cron, continued: what is read is a set of its numbers, and the whole text. No program is named here. -/
import Derived.Test.YthebcdadoinflaaDoorPrs
namespace Go.Proofs.YthebcdadoinflaaDoor.Crn
open Cal Txt

theorem sp_len (c : UInt8) : ∀ (l x : List UInt8), x ∈ sp c l → x.length ≤ l.length
  | [], x, h => by simp [sp] at h; simp [h]
  | y :: l, x, h => by
    obtain ⟨a, t, e⟩ := sp_ne c l
    have ih := sp_len c l
    unfold sp at h
    rw [e] at h ih
    split at h
    · rcases List.mem_cons.1 h with h | h
      · simp [h]
      · have := ih x h; simp; omega
    · rcases List.mem_cons.1 h with h | h
      · have := ih a (by simp)
        rw [h]
        simp
        omega
      · have := ih x (by simp at h; simp [h])
        simp
        omega
theorem sp_count (c : UInt8) : ∀ l : List UInt8, (sp c l).length ≤ l.length + 1
  | [] => by simp [sp]
  | y :: l => by
    have ih := sp_count c l
    obtain ⟨a, t, e⟩ := sp_ne c l
    unfold sp
    rw [e] at ih ⊢
    split
    · simp at *; omega
    · simp at *; omega
/-- A set of numbers from one to another that is not empty. -/
def Fin (lo hi v : Nat) : Prop := v ≠ 0 ∧ ∀ j, v.testBit j = true → lo ≤ j ∧ j ≤ hi
theorem fin_lt {lo hi v : Nat} (h : Fin lo hi v) (ht : hi < 64) : v < 18446744073709551616 := by
  apply Nat.lt_pow_two_of_testBit (n := 64)
  intro i hi'
  by_cases e : v.testBit i = true
  · have := h.2 i e; omega
  · simpa using e
theorem fin_of_bit {lo hi v j : Nat} (hj : v.testBit j = true) (h : ∀ j, v.testBit j = true → lo ≤ j ∧ j ≤ hi) : Fin lo hi v := by
  refine ⟨?_, h⟩
  intro e
  rw [e] at hj
  simp at hj
theorem fin_spn {lo hi : Nat} {f t s : Int} (h0 : (lo : Int) ≤ f) (h1 : f ≤ t) (h2 : t ≤ hi) : Fin lo hi (spn f t s) := by
  have hb : (spn f t s).testBit f.toNat = true := by
    rw [spn_bit (by omega)]
    exact decide_eq_true ⟨by omega, by omega, by simp⟩
  refine fin_of_bit hb ?_
  intro j hj
  rw [spn_bit (by omega)] at hj
  have := of_decide_eq_true hj
  omega
theorem item_fin {lo hi : Nat} {l : List UInt8} {v : Nat} (hlh : lo ≤ hi) (h : itemO lo hi l = some v) : Fin lo hi v := by
  obtain ⟨a, b, st, hk⟩ : ∃ a b st, Lib.cut l [47] = (a, b, st) := ⟨_, _, _, rfl⟩
  cases st with
  | false =>
    cases hm : memO lo hi a with
    | some n =>
      rw [item_one hk hm] at h
      cases h
      have hb := (mem_open hm).2
      refine fin_of_bit (j := n.toNat) (by rw [Nat.testBit_two_pow]; simp) ?_
      intro j hj
      rw [Nat.testBit_two_pow] at hj
      have := of_decide_eq_true hj
      omega
    | none =>
      rw [item_all hk hm] at h
      cases hs : spanO lo hi a with
      | none => rw [hs] at h; cases h
      | some p =>
        obtain ⟨f, t⟩ := p
        rw [hs] at h
        cases h
        have hb := span_in hs hlh
        exact fin_spn (by omega) (by omega) (by omega)
  | true =>
    rw [item_step hk] at h
    cases hs : spanO lo hi a with
    | none => rw [hs] at h; cases h
    | some p =>
      obtain ⟨f, t⟩ := p
      have hb := span_in hs hlh
      rw [hs] at h
      cases hn : numO b with
      | none => rw [hn] at h; cases h
      | some st =>
        rw [hn] at h
        simp only [Option.bind_some] at h
        split at h
        · cases h
        · cases h
          exact fin_spn (by omega) (by omega) (by omega)
theorem fin_or {lo hi a b : Nat} (ha : a = 0 ∨ Fin lo hi a) (hb : Fin lo hi b) : Fin lo hi (a ||| b) := by
  refine ⟨?_, ?_⟩
  · intro e
    have := (Nat.or_eq_zero_iff.1 e).2
    exact hb.1 this
  · intro j hj
    rw [Nat.testBit_or, Bool.or_eq_true] at hj
    rcases hj with hj | hj
    · rcases ha with e | e
      · rw [e] at hj; simp at hj
      · exact e.2 j hj
    · exact hb.2 j hj
theorem items_fin {lo hi : Nat} (hlh : lo ≤ hi) : ∀ {xs : List (List UInt8)} {a v : Nat}, (a = 0 ∨ Fin lo hi a) → itemsO lo hi xs a = some v → v = a ∨ Fin lo hi v
  | [], a, v, _, h => by cases h; exact Or.inl rfl
  | x :: xs, a, v, ha, h => by
    rw [itemsO] at h
    cases hx : itemO lo hi x with
    | none => rw [hx] at h; cases h
    | some u =>
      rw [hx] at h
      simp only [Option.bind_some] at h
      have hf := fin_or ha (item_fin hlh hx)
      rcases items_fin hlh (Or.inr hf) h with e | e
      · rw [e]; exact Or.inr hf
      · exact Or.inr e
theorem items_cons_fin {lo hi : Nat} (hlh : lo ≤ hi) {x : List UInt8} {xs : List (List UInt8)} {v : Nat} (h : itemsO lo hi (x :: xs) 0 = some v) : Fin lo hi v := by
  rw [itemsO] at h
  cases hx : itemO lo hi x with
  | none => rw [hx] at h; cases h
  | some u =>
    rw [hx] at h
    simp only [Option.bind_some] at h
    have hf := fin_or (lo := lo) (hi := hi) (Or.inl rfl) (item_fin hlh hx)
    rcases items_fin hlh (Or.inr hf) h with e | e
    · rw [e]; exact hf
    · exact e
theorem set_fin {lo hi : Nat} (hlh : lo ≤ hi) {l : List UInt8} {v : Nat} (h : setO lo hi l = some v) : Fin lo hi v := by
  unfold setO at h
  obtain ⟨a, t, e⟩ := sp_ne 44 l
  rw [e] at h
  exact items_cons_fin hlh h
theorem acc_lt {lo hi : Nat} (hlh : lo ≤ hi) (ht : hi < 64) {xs : List (List UInt8)} {v : Nat} (h : itemsO lo hi xs 0 = some v) : v < 18446744073709551616 := by
  rcases items_fin hlh (Or.inl rfl) h with e | e
  · omega
  · exact fin_lt e ht

/-- The whole text. -/
def prsO (l : List UInt8) : Option Cr :=
  if (sp 32 l).length = 5 then
    (setO 0 59 ((sp 32 l).getD 0 [])).bind fun a => (setO 0 23 ((sp 32 l).getD 1 [])).bind fun b => (setO 1 31 ((sp 32 l).getD 2 [])).bind fun d => (setO 1 12 ((sp 32 l).getD 3 [])).bind fun e => (setO 0 6 ((sp 32 l).getD 4 [])).bind fun f => some ⟨a, b, d, e, f⟩
  else none
def fldO (l : List UInt8) : Nat → Option Nat
  | 0 => setO 0 59 ((sp 32 l).getD 0 [])
  | 1 => setO 0 23 ((sp 32 l).getD 1 [])
  | 2 => setO 1 31 ((sp 32 l).getD 2 [])
  | 3 => setO 1 12 ((sp 32 l).getD 3 [])
  | _ => setO 0 6 ((sp 32 l).getD 4 [])
theorem prs_some {l : List UInt8} {a b d e f : Nat} (h5 : (sp 32 l).length = 5) (h0 : fldO l 0 = some a) (h1 : fldO l 1 = some b) (h2 : fldO l 2 = some d) (h3 : fldO l 3 = some e) (h4 : fldO l 4 = some f) : prsO l = some ⟨a, b, d, e, f⟩ := by
  simp only [fldO] at *
  unfold prsO
  rw [if_pos h5, h0, h1, h2, h3, h4]
  rfl
theorem prs_none {l : List UInt8} {k : Nat} (hk : k < 5) (h : fldO l k = none) : prsO l = none := by
  unfold prsO
  split
  · rcases (show k = 0 ∨ k = 1 ∨ k = 2 ∨ k = 3 ∨ k = 4 by omega) with e | e | e | e | e <;> subst e <;> simp only [fldO] at h <;> rw [h]
    · rfl
    · cases setO 0 59 ((sp 32 l).getD 0 []) <;> rfl
    · cases setO 0 59 ((sp 32 l).getD 0 []) <;> cases setO 0 23 ((sp 32 l).getD 1 []) <;> rfl
    · cases setO 0 59 ((sp 32 l).getD 0 []) <;> cases setO 0 23 ((sp 32 l).getD 1 []) <;> cases setO 1 31 ((sp 32 l).getD 2 []) <;> rfl
    · cases setO 0 59 ((sp 32 l).getD 0 []) <;> cases setO 0 23 ((sp 32 l).getD 1 []) <;> cases setO 1 31 ((sp 32 l).getD 2 []) <;> cases setO 1 12 ((sp 32 l).getD 3 []) <;> rfl
  · rfl
theorem prs_few {l : List UInt8} (h : ¬ (sp 32 l).length = 5) : prsO l = none := by unfold prsO; rw [if_neg h]
theorem fin_low {hi v : Nat} (h : Fin 0 hi v) : 0 < v ∧ v < 2 ^ (hi + 1) := by
  refine ⟨Nat.pos_of_ne_zero h.1, ?_⟩
  apply Nat.lt_pow_two_of_testBit
  intro i hi'
  by_cases e : v.testBit i = true
  · have := h.2 i e; omega
  · simpa using e
theorem fin_even {hi v : Nat} (h : Fin 1 hi v) : 0 < v ∧ v < 2 ^ (hi + 1) ∧ v % 2 = 0 := by
  refine ⟨Nat.pos_of_ne_zero h.1, ?_, ?_⟩
  · apply Nat.lt_pow_two_of_testBit
    intro i hi'
    by_cases e : v.testBit i = true
    · have := h.2 i e; omega
    · simpa using e
  · rw [even_bit]
    by_cases e : v.testBit 0 = true
    · have := h.2 0 e; omega
    · simpa using e
/-- What is parsed is right. -/
theorem prs_ok {l : List UInt8} {c : Cr} (h : prsO l = some c) : okB c = true := by
  unfold prsO at h
  split at h
  · cases h0 : setO 0 59 ((sp 32 l).getD 0 []) with
    | none => rw [h0] at h; cases h
    | some a =>
      cases h1 : setO 0 23 ((sp 32 l).getD 1 []) with
      | none => rw [h0, h1] at h; cases h
      | some b =>
        cases h2 : setO 1 31 ((sp 32 l).getD 2 []) with
        | none => rw [h0, h1, h2] at h; cases h
        | some d =>
          cases h3 : setO 1 12 ((sp 32 l).getD 3 []) with
          | none => rw [h0, h1, h2, h3] at h; cases h
          | some e =>
            cases h4 : setO 0 6 ((sp 32 l).getD 4 []) with
            | none => rw [h0, h1, h2, h3, h4] at h; cases h
            | some f =>
              rw [h0, h1, h2, h3, h4] at h
              cases h
              have a0 := fin_low (set_fin (by omega) h0)
              have a1 := fin_low (set_fin (by omega) h1)
              have a2 := fin_even (set_fin (by omega) h2)
              have a3 := fin_even (set_fin (by omega) h3)
              have a4 := fin_low (set_fin (by omega) h4)
              exact decide_eq_true ⟨a0.1, a0.2, a1.1, a1.2, a2.1, a2.2.1, a2.2.2, a3.1, a3.2.1, a3.2.2, a4.1, a4.2⟩
  · cases h
end Go.Proofs.YthebcdadoinflaaDoor.Crn
