/- Mathematics of first fit downward: no more than half as many boxes more than it must. -/
import Derived.Test.YtamcpljfambgpaaKla
namespace Go.Proofs.Ytamcpljfambgpaa
open Go.RowKit
set_option linter.unusedSectionVars false
set_option linter.unusedVariables false

/-- What is true of the boxes all along, when the things come downward. -/
structure Fdn (l : List Int) (size : Int) (P : List Nat) (s : Fs) : Prop where
  fit : ∀ i ∈ P, ∀ b : Nat, (b : Int) < s.inn i → s.rm b < nm l i
  two : ∀ b : Nat, b < s.m → ∃ i ∈ P, s.inn i = (b : Int) ∧ (size - s.rm b = nm l i ∨ ∃ i' ∈ P, s.inn i' = (b : Int) ∧ nm l i + nm l i' ≤ size - s.rm b)
  first : ∀ i ∈ P, ∀ b : Nat, (b : Int) ≤ s.inn i → ∃ j ∈ P, s.inn j = (b : Int) ∧ nm l i ≤ nm l j
theorem Fdn.step {l : List Int} {size : Int} {P : List Nat} {s : Fs} {i : Nat} (h : Fdn l size P s) (hI : Inb l size P s) (hi : i ∉ P) (hs : ∀ j ∈ P, nm l i ≤ nm l j) (hx : 1 ≤ nm l i) (hxj : ∀ j ∈ P, 1 ≤ nm l j) : Fdn l size (P ++ [i]) (fst l size s i) := by
  have hold : ∀ (v : Int), ∀ j ∈ P, fp s.inn i v j = s.inn j := fun v j hj => fp_ne (fun e => hi (by rw [← e]; exact hj))
  have hin : ∀ j ∈ P, j ∈ P ++ [i] := fun j hj => List.mem_append_left _ hj
  have hii : i ∈ P ++ [i] := by simp
  unfold fst
  cases e : ((List.range s.m).map s.rm).findIdx? (fun r => decide (nm l i ≤ r)) with
  | some b =>
    obtain ⟨hj, h1, h2⟩ := List.findIdx?_eq_some_iff_getElem.1 e
    have hb : b < s.m := by simpa using hj
    have hno : ∀ c, c < b → s.rm c < nm l i := fun c hc => by
      have := h2 c hc
      simp at this
      omega
    refine ⟨fun j hj c hc => ?_, fun c hc => ?_, fun j hj c hc => ?_⟩
    · show fp s.rm b (s.rm b - nm l i) c < nm l j
      have hc' : (c : Int) < fp s.inn i (b : Int) j := hc
      rcases List.mem_append.1 hj with hj | hj
      · rw [hold _ j hj] at hc'
        have h3 := h.fit j hj c hc'
        by_cases ec : c = b
        · rw [ec, fp_same]; rw [ec] at h3; omega
        · rw [fp_ne ec]; exact h3
      · rw [List.mem_singleton.1 hj, fp_same] at hc'
        rw [List.mem_singleton.1 hj, fp_ne (by omega)]
        exact hno c (by omega)
    · show ∃ j ∈ P ++ [i], fp s.inn i (b : Int) j = (c : Int) ∧ (size - fp s.rm b (s.rm b - nm l i) c = nm l j ∨ ∃ j' ∈ P ++ [i], fp s.inn i (b : Int) j' = (c : Int) ∧ nm l j + nm l j' ≤ size - fp s.rm b (s.rm b - nm l i) c)
      obtain ⟨j, hj, ej, h3⟩ := h.two c hc
      refine ⟨j, hin j hj, by rw [hold _ j hj]; exact ej, ?_⟩
      by_cases ec : c = b
      · rw [ec, fp_same]
        rw [ec] at h3
        right
        rcases h3 with h3 | ⟨j', hj', ej', h3⟩
        · exact ⟨i, hii, by rw [fp_same], by omega⟩
        · exact ⟨j', hin j' hj', by rw [hold _ j' hj', ej'], by omega⟩
      · rw [fp_ne ec]
        rcases h3 with h3 | ⟨j', hj', ej', h3⟩
        · exact Or.inl h3
        · exact Or.inr ⟨j', hin j' hj', by rw [hold _ j' hj']; exact ej', h3⟩
    · show ∃ j' ∈ P ++ [i], fp s.inn i (b : Int) j' = (c : Int) ∧ nm l j ≤ nm l j'
      have hc' : (c : Int) ≤ fp s.inn i (b : Int) j := hc
      rcases List.mem_append.1 hj with hj | hj
      · rw [hold _ j hj] at hc'
        obtain ⟨j', hj', ej', h3⟩ := h.first j hj c hc'
        exact ⟨j', hin j' hj', by rw [hold _ j' hj']; exact ej', h3⟩
      · rw [List.mem_singleton.1 hj, fp_same] at hc'
        rw [List.mem_singleton.1 hj]
        obtain ⟨j', hj', ej'⟩ := hI.ne c (by omega)
        exact ⟨j', hin j' hj', by rw [hold _ j' hj']; exact ej', hs j' hj'⟩
  | none =>
    have hno : ∀ c, c < s.m → s.rm c < nm l i := fun c hc => by
      have := List.findIdx?_eq_none_iff.1 e (s.rm c) (List.mem_map.2 ⟨c, List.mem_range.2 hc, rfl⟩)
      simp at this
      omega
    have hlt : ∀ j ∈ P, s.inn j < (s.m : Int) := fun j hj => by
      obtain ⟨d, e1, e2⟩ := hI.lt j hj
      rw [e1]; omega
    refine ⟨fun j hj c hc => ?_, fun c hc => ?_, fun j hj c hc => ?_⟩
    · show fp (fp s.rm s.m size) s.m (size - nm l i) c < nm l j
      have hc' : (c : Int) < fp s.inn i (s.m : Int) j := hc
      rcases List.mem_append.1 hj with hj | hj
      · rw [hold _ j hj] at hc'
        have := hlt j hj
        rw [fp_ne (by omega), fp_ne (by omega)]
        exact h.fit j hj c hc'
      · rw [List.mem_singleton.1 hj, fp_same] at hc'
        rw [List.mem_singleton.1 hj, fp_ne (by omega), fp_ne (by omega)]
        exact hno c (by omega)
    · show ∃ j ∈ P ++ [i], fp s.inn i (s.m : Int) j = (c : Int) ∧ (size - fp (fp s.rm s.m size) s.m (size - nm l i) c = nm l j ∨ ∃ j' ∈ P ++ [i], fp s.inn i (s.m : Int) j' = (c : Int) ∧ nm l j + nm l j' ≤ size - fp (fp s.rm s.m size) s.m (size - nm l i) c)
      have hc' : c < s.m + 1 := hc
      by_cases ec : c = s.m
      · rw [ec, fp_same]
        exact ⟨i, hii, by rw [fp_same], Or.inl (by omega)⟩
      · rw [fp_ne ec, fp_ne ec]
        obtain ⟨j, hj, ej, h3⟩ := h.two c (by omega)
        refine ⟨j, hin j hj, by rw [hold _ j hj]; exact ej, ?_⟩
        rcases h3 with h3 | ⟨j', hj', ej', h3⟩
        · exact Or.inl h3
        · exact Or.inr ⟨j', hin j' hj', by rw [hold _ j' hj']; exact ej', h3⟩
    · show ∃ j' ∈ P ++ [i], fp s.inn i (s.m : Int) j' = (c : Int) ∧ nm l j ≤ nm l j'
      have hc' : (c : Int) ≤ fp s.inn i (s.m : Int) j := hc
      rcases List.mem_append.1 hj with hj | hj
      · rw [hold _ j hj] at hc'
        obtain ⟨j', hj', ej', h3⟩ := h.first j hj c hc'
        exact ⟨j', hin j' hj', by rw [hold _ j' hj']; exact ej', h3⟩
      · rw [List.mem_singleton.1 hj, fp_same] at hc'
        rw [List.mem_singleton.1 hj]
        by_cases ec : c = s.m
        · exact ⟨i, hii, by rw [fp_same, ec], Int.le_refl _⟩
        · obtain ⟨j', hj', ej'⟩ := hI.ne c (by omega)
          exact ⟨j', hin j' hj', by rw [hold _ j' hj']; exact ej', hs j' hj'⟩
theorem fold_dn {l : List Int} {size : Int} : ∀ (R P : List Nat) (s : Fs), (P ++ R).Nodup → (P ++ R).Pairwise (fun a b => nm l b ≤ nm l a) → (∀ j ∈ P ++ R, 1 ≤ nm l j) → Inb l size P s → Fdn l size P s → Fdn l size (P ++ R) (R.foldl (fst l size) s) := by
  intro R
  induction R with
  | nil => intro P s _ _ _ _ h; simpa using h
  | cons i R ih =>
    intro P s hn hp hx hI h
    have e : P ++ i :: R = (P ++ [i]) ++ R := by simp
    have hi : i ∉ P := fun hm => by
      rw [List.nodup_append] at hn
      exact hn.2.2 i hm i (List.mem_cons_self ..) rfl
    have hs : ∀ j ∈ P, nm l i ≤ nm l j := fun j hj => by
      rw [List.pairwise_append] at hp
      exact hp.2.2 j hj i (List.mem_cons_self ..)
    have hxi := hx i (by simp)
    have hxj : ∀ j ∈ P, 1 ≤ nm l j := fun j hj => hx j (List.mem_append_left _ hj)
    rw [e] at hn hp hx ⊢
    exact ih (P ++ [i]) (fst l size s i) hn hp hx (hI.step hi) (h.step hI hi hs hxi hxj)
theorem dn_all {l : List Int} {size : Int} {R : List Nat} (hl : ∀ i, i < l.length → 1 ≤ nm l i) (hR : Perm0 l.length R) (hD : Dwn l R) : Fdn l size R (fsA l size R) := by
  have hn : R.Nodup := hR.perm.nodup_iff.2 List.nodup_range
  have hp : R.Pairwise (fun a b => nm l b ≤ nm l a) := by
    rw [List.pairwise_iff_getElem]
    intro i j hi hj hij
    have := hD i j hij hj
    simp only [List.getD_eq_getElem?_getD, List.getElem?_eq_getElem hi, List.getElem?_eq_getElem hj, Option.getD_some] at this
    omega
  have h := fold_dn (l := l) (size := size) R [] ⟨0, fun _ => 0, fun _ => 0⟩ (by simpa using hn) (by simpa using hp) (fun j hj => hl j (hR.lt j (by simpa using hj))) ⟨fun i hi => by simp at hi, fun b hb => absurd hb (Nat.not_lt_zero _), fun b hb => absurd hb (Nat.not_lt_zero _)⟩ ⟨fun i hi => by simp at hi, fun b hb => absurd hb (Nat.not_lt_zero _), fun i hi => by simp at hi⟩
  rwa [List.nil_append] at h

theorem sumF_mono {E E' : Nat → Int} : ∀ {m : Nat}, (∀ b, b < m → E b ≤ E' b) → sumF E m ≤ sumF E' m := by
  intro m
  induction m with
  | zero => intro _; exact Int.le_refl _
  | succ m ih =>
    intro h
    have h1 := ih fun b hb => h b (by omega)
    have h2 := h m (by omega)
    rw [sumF, sumF]
    omega
theorem big_many {l : List Int} {size : Int} {I : Nat → Int} {n : Nat} : ∀ K : Nat, (∀ b : Nat, b < K → ∃ j, j < n ∧ I j = (b : Int) ∧ size < 2 * nm l j) → (K : Int) ≤ sumF (fun j => if I j < (K : Int) then bgI l size j else 0) n := by
  intro K
  have hbg : ∀ j, 0 ≤ bgI l size j := fun j => by unfold bgI; split <;> omega
  induction K with
  | zero =>
    intro _
    have := sumF_ge (E := fun j => if I j < ((0 : Nat) : Int) then bgI l size j else 0) (a := 0) (m := n) fun j _ => by
      have := hbg j
      show 0 ≤ if I j < ((0 : Nat) : Int) then bgI l size j else 0
      split <;> omega
    simpa using this
  | succ K ih =>
    intro h
    have h1 := ih fun b hb => h b (by omega)
    obtain ⟨j, hj, ej, hb⟩ := h K (by omega)
    have h2 := sumF_fp (fun j => if I j < (K : Int) then bgI l size j else 0) j 1 hj
    have h3 : (if I j < (K : Int) then bgI l size j else 0) = 0 := if_neg (by omega)
    have h4 := sumF_mono (E := fp (fun j => if I j < (K : Int) then bgI l size j else 0) j 1) (E' := fun j => if I j < ((K + 1 : Nat) : Int) then bgI l size j else 0) (m := n) fun c _ => by
      by_cases ec : c = j
      · rw [ec, fp_same]
        show (1 : Int) ≤ if I j < ((K + 1 : Nat) : Int) then bgI l size j else 0
        rw [if_pos (by omega)]
        unfold bgI
        rw [if_pos hb]
        exact Int.le_refl _
      · rw [fp_ne ec]
        show (if I c < (K : Int) then bgI l size c else 0) ≤ if I c < ((K + 1 : Nat) : Int) then bgI l size c else 0
        have := hbg c
        by_cases e1 : I c < (K : Int)
        · rw [if_pos e1, if_pos (by omega)]; exact Int.le_refl _
        · rw [if_neg e1]; split <;> omega
    try dsimp only at h2
    rw [h3] at h2
    omega
theorem max_ex (E : Nat → Int) : ∀ k : Nat, 0 < k → ∃ b0, b0 < k ∧ ∀ b, b < k → E b ≤ E b0 := by
  intro k
  induction k with
  | zero => intro h; omega
  | succ k ih =>
    intro _
    by_cases hk : k = 0
    · exact ⟨0, by omega, fun b hb => by rw [show b = 0 by omega]; exact Int.le_refl _⟩
    · obtain ⟨b0, hb0, h⟩ := ih (by omega)
      by_cases e : E b0 ≤ E k
      · refine ⟨k, by omega, fun b hb => ?_⟩
        by_cases e2 : b = k
        · rw [e2]; exact Int.le_refl _
        · have := h b (by omega); omega
      · refine ⟨b0, by omega, fun b hb => ?_⟩
        by_cases e2 : b = k
        · rw [e2]; omega
        · exact h b (by omega)
theorem sum_from {L : Nat → Int} {K : Nat} {a : Int} : ∀ d : Nat, (∀ b, K ≤ b → b < K + d → a ≤ L b) → sumF L K + (d : Int) * a ≤ sumF L (K + d) := by
  intro d
  induction d with
  | zero => intro _; simp
  | succ d ih =>
    intro h
    have h1 := ih fun b h1 h2 => h b h1 (by omega)
    have h2 := h (K + d) (by omega) (by omega)
    have e1 : sumF L (K + (d + 1)) = sumF L (K + d) + L (K + d) := rfl
    have e2 : ((d + 1 : Nat) : Int) * a = (d : Int) * a + a := by rw [show ((d + 1 : Nat) : Int) = (d : Int) + 1 by omega, Int.add_mul]; simp
    rw [e1, e2]
    omega
/-- SIMCHI-LEVI. -/
theorem down_half {l : List Int} {size k : Int} {R : List Nat} (hk : kc l size = 0) (hL : Lst l size k) (hR : Perm0 l.length R) (hD : Dwn l R) : 2 * ((fsA l size R).m : Int) ≤ 3 * k := by
  obtain ⟨k1, k2, k3, k4⟩ := kc_ok hk
  have hl : ∀ i, i < l.length → 1 ≤ nm l i := fun i hi => (k4 _ (nm_mem hi)).1
  have hDn := dn_all (size := size) hl hR hD
  have hIn := inb_all (size := size) hR
  have hF := fit_all k4 hR
  have hmem : ∀ {i}, i ∈ R → i < l.length := fun h => hR.lt _ h
  obtain ⟨K, rfl⟩ : ∃ K : Nat, k = (K : Int) := ⟨k.toNat, by have := hL.nn; omega⟩
  have hfm := hF.tot
  have hlo := hF.lo
  have htot := hL.tot
  have hbig := hL.big
  have hpos := hL.pos
  clear hF hL
  generalize fsA l size R = s at *
  by_cases hm : s.m ≤ K
  · omega
  have hm' : K < s.m := by omega
  obtain ⟨i0, hi0, _⟩ := hDn.two K hm'
  have hK : 0 < K := by have := hpos (by have := hmem hi0; omega); omega
  have small : ∀ i ∈ R, (K : Int) ≤ s.inn i → 2 * nm l i ≤ size := fun i hi hKi => by
    by_cases e : 2 * nm l i ≤ size
    · exact e
    · exfalso
      have h1 := big_many (l := l) (size := size) (I := s.inn) (n := l.length) (K + 1) fun b hb => by
        obtain ⟨j, hj, ej, h3⟩ := hDn.first i hi b (by omega)
        exact ⟨j, hmem hj, ej, by omega⟩
      have h2 := sumF_mono (E := fun j => if s.inn j < ((K + 1 : Nat) : Int) then bgI l size j else 0) (E' := bgI l size) (m := l.length) fun j _ => by
        show (if s.inn j < ((K + 1 : Nat) : Int) then bgI l size j else 0) ≤ bgI l size j
        split
        · exact Int.le_refl _
        · unfold bgI; split <;> omega
      omega
  obtain ⟨b0, hb0, hmax⟩ := max_ex s.rm K hK
  have hc1 := hlo b0 (by omega)
  have hge : ∀ i ∈ R, (K : Int) ≤ s.inn i → s.rm b0 + 1 ≤ nm l i := fun i hi hKi => by
    have := hDn.fit i hi b0 (by omega)
    omega
  obtain ⟨jz, hjz, ejz, hz0⟩ := hDn.two (s.m - 1) (by omega)
  have hz : Hid _ := hz0
  clear hz0
  have sjz := small jz hjz (by omega)
  have h1 := sumF_ge (E := fun b => size - s.rm b) (a := size - s.rm b0) (m := K) fun b hb => by
    have := hmax b hb
    show size - s.rm b0 ≤ size - s.rm b
    omega
  have h2 := sum_from (L := fun b => size - s.rm b) (K := K) (a := 2 * (s.rm b0 + 1)) (s.m - 1 - K) fun b hb1 hb2 => by
    show 2 * (s.rm b0 + 1) ≤ size - s.rm b
    obtain ⟨i, hi, ei, h3⟩ := hDn.two b (by omega)
    have a3 := hDn.fit jz hjz b (by clear h3; omega)
    rcases h3 with h3 | ⟨i', hi', ei', h3⟩
    · have a1 := small i hi (by omega)
      omega
    · have a2 := hge i hi (by omega)
      have a4 := hge i' hi' (by omega)
      omega
  have hlast : s.rm b0 + 1 ≤ size - s.rm (s.m - 1) := by
    have a2 := hge jz hjz (by omega)
    rcases hz.out with h3 | ⟨i', hi', ei', h3⟩
    · omega
    · have a4 := hge i' hi' (by omega)
      omega
  have e1 : sumF (fun b => size - s.rm b) s.m = sumF (fun b => size - s.rm b) (K + (s.m - 1 - K)) + (size - s.rm (s.m - 1)) := by
    have : s.m = (K + (s.m - 1 - K)) + 1 := by omega
    conv => lhs; rw [this]
    rw [sumF, show K + (s.m - 1 - K) = s.m - 1 by omega]
  by_cases hfin : K ≤ 2 * (s.m - 1 - K) + 1
  · exfalso
    generalize hd : s.m - 1 - K = d at *
    have e2 : (K : Int) * (size - s.rm b0) = (K : Int) * size - (K : Int) * s.rm b0 := by rw [Int.mul_sub]
    have e3 : (K : Int) * (s.rm b0 + 1) ≤ ((2 * d + 1 : Nat) : Int) * (s.rm b0 + 1) := Int.mul_le_mul_of_nonneg_right (by omega) (by omega)
    have e4 : (K : Int) * (s.rm b0 + 1) = (K : Int) * s.rm b0 + (K : Int) := by rw [Int.mul_add]; simp
    have e5 : ((2 * d + 1 : Nat) : Int) * (s.rm b0 + 1) = (d : Int) * (2 * (s.rm b0 + 1)) + (s.rm b0 + 1) := by
      rw [show ((2 * d + 1 : Nat) : Int) = (d : Int) * 2 + 1 by omega, Int.add_mul, Int.mul_assoc]; simp
    generalize (K : Int) * s.rm b0 = X at *
    generalize (K : Int) * size = Y at *
    generalize (d : Int) * (2 * (s.rm b0 + 1)) = Z at *
    omega
  · omega
end Go.Proofs.Ytamcpljfambgpaa
