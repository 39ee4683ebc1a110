/- The mathematics of going along edges with a queue: what has been seen at the end is what comes behind. -/
import Derived.Test.YthfpdbogbmccjaaDoorGrm
namespace Go.Proofs.YthfpdbogbmccjaaDoor
open Go.RowKit Gm
set_option linter.unusedSectionVars false
set_option linter.unusedVariables false

/-- One edge looked at, at the thing i: what is seen, and the queue. -/
def bst (i : Nat) (s : (Nat → Bool) × List Nat) (e : Ed) : (Nat → Bool) × List Nat :=
  if e.f = (i : Int) ∧ s.1 e.t.toNat = false then (fun j => s.1 j || decide (j = e.t.toNat), s.2 ++ [e.t.toNat]) else s
def bfo (i : Nat) (s : (Nat → Bool) × List Nat) (l : List Ed) : (Nat → Bool) × List Nat := l.foldl (bst i) s
theorem bfo_snoc (i : Nat) (s : (Nat → Bool) × List Nat) {l : List Ed} {j : Nat} (hj : j < l.length) : bfo i s (l.take (j + 1)) = bst i (bfo i s (l.take j)) (ed l j) := by
  unfold bfo
  rw [take_snoc hj, List.foldl_append]
  rfl
/-- How many are not yet seen. -/
def uns (S : Nat → Bool) (n : Nat) : Nat := (bl (fun j => !S j) n).length
theorem uns_ins {S : Nat → Bool} {t : Nat} (hS : S t = false) : ∀ {n : Nat}, (n ≤ t → uns (fun j => S j || decide (j = t)) n = uns S n) ∧ (t < n → uns (fun j => S j || decide (j = t)) n + 1 = uns S n) := by
  intro n
  induction n with
  | zero => exact ⟨fun _ => rfl, fun h => absurd h (by omega)⟩
  | succ n ih =>
    unfold uns at ih ⊢
    rw [bl_succ, bl_succ, List.length_append, List.length_append]
    constructor
    · intro h
      rw [ih.1 (by omega)]
      have : decide (n = t) = false := decide_eq_false (by omega)
      simp [this]
    · intro h
      by_cases e : n = t
      · subst e
        rw [ih.1 (Nat.le_refl _)]
        simp [hS]
      · have := ih.2 (by omega)
        have e2 : decide (n = t) = false := decide_eq_false e
        simp only [e2, Bool.or_false] at this ⊢
        omega
theorem uns_le (S : Nat → Bool) (n : Nat) : uns S n ≤ n := by
  unfold uns bl
  refine Nat.le_trans (List.length_filter_le _ _) ?_
  simp
theorem bst_cnt {i n : Nat} {s : (Nat → Bool) × List Nat} {e : Ed} (h : 0 ≤ e.t ∧ e.t < (n : Int)) : uns (bst i s e).1 n + (bst i s e).2.length = uns s.1 n + s.2.length := by
  unfold bst
  split
  · rename_i hc
    have := (uns_ins hc.2 (n := n)).2 (by omega)
    simp only [List.length_append, List.length_cons, List.length_nil]
    omega
  · rfl
structure Bfo (l : List Ed) (n i : Nat) (S : Nat → Bool) (Q : List Nat) (l' : List Ed) (s : (Nat → Bool) × List Nat) : Prop where
  cnt : uns s.1 n + s.2.length = uns S n + Q.length
  old : ∀ j, S j = true → s.1 j = true
  seen : ∀ e ∈ l', e.f = (i : Int) → s.1 e.t.toNat = true
  new : ∀ j, s.1 j = true → S j = true ∨ (j ∈ s.2 ∧ eB l i j = true)
  que : ∀ x ∈ s.2, x ∈ Q ∨ (s.1 x = true ∧ eB l i x = true)
  keep : ∀ x ∈ Q, x ∈ s.2
theorem bfo_all {l : List Ed} {n i : Nat} (hg : Gr n l) (S : Nat → Bool) (Q : List Nat) : ∀ k, k ≤ l.length → Bfo l n i S Q (l.take k) (bfo i (S, Q) (l.take k)) := by
  intro k
  induction k with
  | zero =>
    intro _
    exact ⟨by simp [bfo], fun j h => by simpa [bfo] using h, fun e he => by simp at he, fun j h => Or.inl (by simpa [bfo] using h), fun x hx => Or.inl (by simpa [bfo] using hx), fun x hx => by simpa [bfo] using hx⟩
  | succ k ih =>
    intro hk
    have h := ih (by omega)
    have hm : ed l k ∈ l := ed_mem (by omega)
    have hok := hg.ok _ hm
    rw [bfo_snoc _ _ (by omega)]
    generalize bfo i (S, Q) (l.take k) = s at *
    have hcnt := bst_cnt (i := i) (n := n) (s := s) (e := ed l k) hok.2.2
    have htk : l.take (k + 1) = l.take k ++ [ed l k] := take_snoc (by omega)
    rw [htk]
    by_cases hc : (ed l k).f = (i : Int) ∧ s.1 (ed l k).t.toNat = false
    · have e1 : bst i s (ed l k) = (fun j => s.1 j || decide (j = (ed l k).t.toNat), s.2 ++ [(ed l k).t.toNat]) := by rw [bst, if_pos hc]
      have hE : eB l i (ed l k).t.toNat = true := eB_true.2 ⟨_, hm, hc.1, by omega⟩
      rw [e1] at hcnt ⊢
      refine ⟨hcnt.trans h.cnt, fun j hj => by simp [h.old j hj], ?_, ?_, ?_, fun x hx => by simp [h.keep x hx]⟩
      · intro e he hf
        rw [List.mem_append] at he
        rcases he with he | he
        · simp [h.seen e he hf]
        · simp at he; subst he; simp
      · intro j hj
        simp only [Bool.or_eq_true, decide_eq_true_iff] at hj
        rcases hj with hj | hj
        · rcases h.new j hj with h1 | h1
          · exact Or.inl h1
          · exact Or.inr ⟨by simp [h1.1], h1.2⟩
        · subst hj
          exact Or.inr ⟨by simp, hE⟩
      · intro x hx
        rw [List.mem_append] at hx
        rcases hx with hx | hx
        · rcases h.que x hx with h1 | h1
          · exact Or.inl h1
          · exact Or.inr ⟨by simp [h1.1], h1.2⟩
        · simp at hx
          subst hx
          exact Or.inr ⟨by simp, hE⟩
    · have e1 : bst i s (ed l k) = s := by rw [bst, if_neg hc]
      rw [e1]
      refine ⟨h.cnt, h.old, ?_, h.new, h.que, h.keep⟩
      intro e he hf
      rw [List.mem_append] at he
      rcases he with he | he
      · exact h.seen e he hf
      · simp at he
        subst he
        cases hs : s.1 (ed l k).t.toNat with
        | true => rfl
        | false => exact absurd ⟨hf, hs⟩ hc
/-- What the queue's walk keeps. -/
structure Bh (l : List Ed) (n fr : Nat) (S : Nat → Bool) (Q : List Nat) : Prop where
  snd : ∀ j, S j = true → Rch (eB l) fr j
  que : ∀ x ∈ Q, x = fr ∨ S x = true
  out : ∀ x, x = fr ∨ S x = true → x ∉ Q → ∀ j, eB l x j = true → S j = true
  lt : fr < n
theorem Bh.start {l : List Ed} {n fr : Nat} (h : fr < n) : Bh l n fr (fun _ => false) [fr] :=
  ⟨fun j hj => by simp at hj, fun x hx => Or.inl (by simpa using hx), fun x hx hn => absurd (by rcases hx with rfl | h2; exact List.mem_singleton.2 rfl; simp at h2) hn, h⟩
theorem Bh.qlt {l : List Ed} {n fr : Nat} {S : Nat → Bool} {Q : List Nat} (h : Bh l n fr S Q) (hg : Gr n l) : ∀ x ∈ Q, x < n := fun x hx => by
  rcases h.que x hx with rfl | hs
  · exact h.lt
  · exact (rch_lt hg (h.snd x hs)).2
theorem Bh.round {l : List Ed} {n fr i : Nat} {S : Nat → Bool} {Q : List Nat} (hg : Gr n l) (h : Bh l n fr S (i :: Q)) : Bh l n fr (bfo i (S, Q) l).1 (bfo i (S, Q) l).2 := by
  have hb := bfo_all hg S Q (i := i) l.length (Nat.le_refl _)
  rw [List.take_length] at hb
  generalize bfo i (S, Q) l = s at *
  have hir : ∀ j, eB l i j = true → Rch (eB l) fr j := fun j hj => by
    rcases h.que i (by simp) with rfl | hs
    · exact .one hj
    · exact rch_tr (h.snd i hs) (.one hj)
  refine ⟨?_, ?_, ?_, h.lt⟩
  · intro j hj
    rcases hb.new j hj with h1 | h1
    · exact h.snd j h1
    · exact hir j h1.2
  · intro x hx
    rcases hb.que x hx with h1 | h1
    · rcases h.que x (by simp [h1]) with h2 | h2
      · exact Or.inl h2
      · exact Or.inr (hb.old x h2)
    · exact Or.inr h1.1
  · intro x hx hn j hj
    by_cases e : x = i
    · subst e
      obtain ⟨e, he, h1, h2⟩ := eB_true.1 hj
      have := hb.seen e he h1
      rwa [h2, Int.toNat_natCast] at this
    · have hxq : x ∉ Q := fun hq => hn (hb.keep x hq)
      have hxi : x ∉ i :: Q := by simp [e, hxq]
      rcases hx with rfl | hs
      · exact hb.old j (h.out x (Or.inl rfl) hxi j hj)
      · rcases hb.new x hs with h1 | h1
        · exact hb.old j (h.out x (Or.inr h1) hxi j hj)
        · exact absurd h1.1 hn
theorem Bh.finish {l : List Ed} {n fr : Nat} {S : Nat → Bool} (hg : Gr n l) (h : Bh l n fr S []) (j : Nat) : S j = wB l fr j := by
  rw [Bool.eq_iff_iff, wB_iff hg]
  refine ⟨h.snd j, fun hr => ?_⟩
  have : ∀ x j, Rch (eB l) x j → (x = fr ∨ S x = true) → S j = true := by
    intro x j hx
    induction hx with
    | one e => exact fun hx => h.out _ hx (by simp) _ e
    | more e _ ih => exact fun hx => ih (Or.inr (h.out _ hx (by simp) _ e))
  exact this fr j hr (Or.inl rfl)
theorem bfo_cnt {l : List Ed} {n i : Nat} (hg : Gr n l) (S : Nat → Bool) (Q : List Nat) {k : Nat} (hk : k ≤ l.length) : uns (bfo i (S, Q) (l.take k)).1 n + (bfo i (S, Q) (l.take k)).2.length = uns S n + Q.length := (bfo_all hg S Q k hk).cnt
end Go.Proofs.YthfpdbogbmccjaaDoor
