/- What is closed is closed: the mathematics of GraphReach. -/
import Derived.Test.YthfpdbogbmccjaaDoorGcl
namespace Go.Proofs.YthfpdbogbmccjaaDoor
open Go.RowKit Gm
set_option linter.unusedSectionVars false

theorem rch_tr {s : Nat → Nat → Bool} {i j k : Nat} (h : Rch s i j) (g : Rch s j k) : Rch s i k := by
  induction h with
  | one e => exact .more e g
  | more e _ ih => exact .more e (ih g)
theorem eB_eL {n : Nat} {l : List Ed} (hg : Gr n l) {i j : Nat} : eB (eL (wB l) 60) i j = true ↔ Rch (eB l) i j := by
  rw [eB_true]
  constructor
  · rintro ⟨e, he, h1, h2⟩
    obtain ⟨a, b, _, _, h3, rfl⟩ := mem_eL.1 he
    simp only at h1 h2
    obtain rfl : a = i := by omega
    obtain rfl : b = j := by omega
    exact (wB_iff hg).1 h3
  · intro h
    have h1 := rch_lt hg h
    have h2 := hg.n60
    exact ⟨⟨(i : Int), (j : Int)⟩, mem_eL.2 ⟨i, j, by omega, by omega, (wB_iff hg).2 h, rfl⟩, rfl, rfl⟩
theorem chk_eL {n : Int} {l : List Ed} (h0 : chk n l = 0) (h4 : nE (wB l) 60 ≤ 400) : chk n (eL (wB l) 60) = 0 := by
  obtain ⟨h1, h2, _, _⟩ := chk_ok h0
  have hg := chk_gr h0
  have hall : okE n (eL (wB l) 60) = true := by
    unfold okE
    rw [List.all_eq_true]
    intro e he
    obtain ⟨a, b, _, _, h3, rfl⟩ := mem_eL.1 he
    have := rch_lt hg ((wB_iff hg).1 h3)
    simp only [okI, decide_eq_true_iff]
    omega
  unfold chk
  rw [if_neg (by omega), if_neg (by rw [eL_len]; omega), if_pos hall]
theorem wB_eL {n : Int} {l : List Ed} (h0 : chk n l = 0) (h4 : nE (wB l) 60 ≤ 400) : wB (eL (wB l) 60) = wB l := by
  have hg := chk_gr h0
  have hg' := chk_gr (chk_eL h0 h4)
  funext i j
  rw [Bool.eq_iff_iff, wB_iff hg', wB_iff hg]
  constructor
  · intro h
    induction h with
    | one e => exact (eB_eL hg).1 e
    | more e _ ih => exact rch_tr ((eB_eL hg).1 e) ih
  · intro h
    exact .one ((eB_eL hg).2 h)
theorem ce_again {n : Int} {l : List Ed} (h : ce n l = 0) : chk n l = 0 ∧ nE (wB l) 60 ≤ 400 := by
  unfold ce at h
  split at h
  · refine ⟨by assumption, ?_⟩
    split at h
    · cases h
    · omega
  · exact absurd h (by assumption)
/-- What is closed is closed. -/
theorem closed_again {n : Int} {l : List Ed} (h : ce n l = 0) : ce n (cl n l) = 0 ∧ cl n (cl n l) = cl n l := by
  obtain ⟨h0, h4⟩ := ce_again h
  have e1 : cl n l = eL (wB l) 60 := by rw [cl, if_pos ⟨h0, h4⟩]
  have h0' := chk_eL h0 h4
  have hw := wB_eL h0 h4
  rw [e1]
  constructor
  · rw [ce, if_pos h0', hw, if_neg (by omega)]
  · rw [cl, hw, if_pos ⟨h0', h4⟩]
theorem cl_none {n : Int} {l : List Ed} (h : ce n l ≠ 0) : cl n l = [] := by
  rw [cl, if_neg]
  rintro ⟨h0, h4⟩
  apply h
  rw [ce, if_pos h0, if_neg (by omega)]
theorem cl_len (n : Int) (l : List Ed) : (cl n l).length ≤ 4000 := by
  unfold cl
  split
  · rw [eL_len]; have := nE_le (wB l) 60; omega
  · simp
theorem re_zero {n : Int} {l : List Ed} {i : Int} (h : re n l i = 0) : chk n l = 0 ∧ 0 ≤ i ∧ i < n := by
  unfold re at h
  split at h
  · refine ⟨by assumption, ?_⟩
    split at h
    · assumption
    · cases h
  · exact absurd h (by assumption)
theorem rl_none {n : Int} {l : List Ed} {i : Int} (h : re n l i ≠ 0) : rl n l i = [] := by
  rw [rl, if_neg]
  rintro ⟨h0, hi⟩
  apply h
  rw [re, if_pos h0, if_pos hi]
theorem mem_rl {n : Int} {l : List Ed} {i : Int} (h : re n l i = 0) {j : Nat} : j ∈ rl n l i ↔ Rch (eB l) i.toNat j := by
  obtain ⟨h0, hi⟩ := re_zero h
  have hg := chk_gr h0
  rw [rl, if_pos ⟨h0, hi⟩, mem_bl, wB_iff hg]
  constructor
  · exact fun h => h.2
  · intro h
    have := rch_lt hg h
    have := hg.n60
    exact ⟨by omega, h⟩
/-- Who comes behind one that comes behind another comes behind that one. -/
theorem rl_trans {n : Int} {l : List Ed} {i k : Int} (hi : re n l i = 0) (hk : re n l k = 0) (h : ∃ j ∈ rl n l i, (j : Int) = k) {x : Nat} (hx : x ∈ rl n l k) : x ∈ rl n l i := by
  obtain ⟨j, hj, rfl⟩ := h
  rw [mem_rl hi] at hj ⊢
  rw [mem_rl hk, Int.toNat_natCast] at hx
  exact rch_tr hj hx
theorem cl_mem {n : Int} {l : List Ed} {i k : Int} (hi : re n l i = 0) (hk : re n l k = 0) (hc : ce n l = 0) : (⟨i, k⟩ : Ed) ∈ cl n l ↔ ∃ j ∈ rl n l i, (j : Int) = k := by
  obtain ⟨h0, h4⟩ := ce_again hc
  obtain ⟨_, hi1, hi2⟩ := re_zero hi
  obtain ⟨_, hk1, hk2⟩ := re_zero hk
  have hg := chk_gr h0
  obtain ⟨I, rfl⟩ : ∃ I : Nat, i = I := ⟨i.toNat, by omega⟩
  obtain ⟨K, rfl⟩ : ∃ K : Nat, k = K := ⟨k.toNat, by omega⟩
  rw [cl, if_pos ⟨h0, h4⟩, mem_eL]
  constructor
  · rintro ⟨a, b, _, _, h3, e⟩
    simp only [Ed.mk.injEq] at e
    obtain rfl : I = a := by omega
    obtain rfl : K = b := by omega
    exact ⟨K, (mem_rl hi).2 (by rw [Int.toNat_natCast]; exact (wB_iff hg).1 h3), rfl⟩
  · rintro ⟨j, hj, e⟩
    obtain rfl : j = K := by omega
    have := (mem_rl hi).1 hj
    rw [Int.toNat_natCast] at this
    have h1 := rch_lt hg this
    have h2 := hg.n60
    exact ⟨I, j, by omega, by omega, (wB_iff hg).2 this, rfl⟩
end Go.Proofs.YthfpdbogbmccjaaDoor
