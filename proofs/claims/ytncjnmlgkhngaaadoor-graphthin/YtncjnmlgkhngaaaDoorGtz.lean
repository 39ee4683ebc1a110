/- The mathematics of GraphThin: the thin graph's closure, and what is left of it without one of its edges. -/
import Derived.Test.YtncjnmlgkhngaaaDoorGte
namespace Go.Proofs.YtncjnmlgkhngaaaDoor
open Go.RowKit Gm
set_option linter.unusedSectionVars false

theorem len_le_sub0 {α : Type} [DecidableEq α] : ∀ {L M : List α}, L.Nodup → (∀ x ∈ L, x ∈ M) → L.length ≤ M.length
  | [], _, _, _ => Nat.zero_le _
  | x :: r, M, hn, hs => by
    have h1 : x ∈ M := hs x (by simp)
    have hn' := List.nodup_cons.1 hn
    have ih := len_le_sub0 (L := r) (M := M.erase x) hn'.2 (fun y hy => (List.mem_erase_of_ne (fun (e : y = x) => hn'.1 (e ▸ hy))).2 (hs y (by simp [hy])))
    have h2 := List.length_erase_of_mem h1
    have h3 := List.length_pos_of_mem h1
    simp only [List.length_cons]
    omega
theorem len_le_sub {L M : List Ed} (hn : L.Nodup) (hs : ∀ x ∈ L, x ∈ M) : L.length ≤ M.length := by
  classical
  exact len_le_sub0 hn hs
theorem bl_nodup (p : Nat → Bool) (n : Nat) : (bl p n).Nodup := List.Nodup.sublist List.filter_sublist List.nodup_range
theorem eL_nodup (r : Nat → Nat → Bool) : ∀ m, (eL r m).Nodup
  | 0 => List.nodup_nil
  | m + 1 => by
    rw [eL, List.nodup_append]
    refine ⟨eL_nodup r m, ?_, ?_⟩
    · refine List.Pairwise.map _ ?_ (bl_nodup (r m) 60)
      intro a b hab e
      simp only [Ed.mk.injEq] at e
      omega
    · intro a ha b hb e
      obtain ⟨i, j, hi, _, _, rfl⟩ := mem_eL.1 ha
      obtain ⟨k, _, rfl⟩ := List.mem_map.1 hb
      simp only [Ed.mk.injEq] at e
      omega
theorem te_zero {n : Int} {l : List Ed} (h : te n l = 0) : chk n l = 0 ∧ (∀ i, ¬ Rch (eB l) i i) ∧ tl n l = eL (tn l) 60 := by
  unfold te at h
  split at h
  · rename_i h0
    split at h
    · rename_i hk
      refine ⟨h0, fun i hr => ?_, by rw [tl, if_pos ⟨h0, hk⟩]⟩
      have hg := chk_gr h0
      have h1 := rch_lt hg hr
      have h2 := hg.n60
      have := bs_zero.1 hk i (by omega)
      rw [(wB_iff hg).2 hr] at this
      cases this
    · cases h
  · exact absurd h (by assumption)
theorem tl_none {n : Int} {l : List Ed} (h : te n l ≠ 0) : tl n l = [] := by
  rw [tl, if_neg]
  rintro ⟨h0, hk⟩
  exact h (by rw [te, if_pos h0, if_pos hk])
theorem tn_sub {l : List Ed} {e : Ed} (h : e ∈ eL (tn l) 60) : e ∈ l := by
  obtain ⟨i, j, _, _, h3, rfl⟩ := mem_eL.1 h
  obtain ⟨e, he, h1, h2⟩ := eB_true.1 (tn_eB h3)
  have : e = ⟨(i : Int), (j : Int)⟩ := by cases e; simp only at h1 h2; rw [h1, h2]
  exact this ▸ he
theorem tl_sub {n : Int} {l : List Ed} {e : Ed} (h : e ∈ tl n l) : e ∈ l := by
  unfold tl at h
  split at h
  · exact tn_sub h
  · simp at h
theorem tl_nodup (n : Int) (l : List Ed) : (tl n l).Nodup := by
  unfold tl
  split
  · exact eL_nodup _ _
  · exact List.nodup_nil
theorem tl_len (n : Int) (l : List Ed) : (tl n l).length ≤ l.length := len_le_sub (tl_nodup n l) fun _ => tl_sub
theorem chk_sub {n : Int} {l m : List Ed} (h0 : chk n l = 0) (hs : ∀ e ∈ m, e ∈ l) (hl : m.length ≤ l.length) : chk n m = 0 := by
  obtain ⟨h1, h2, h3, h4⟩ := chk_ok h0
  have hall : okE n m = true := by
    have h4 : okE n l = true := by
      unfold chk at h0
      split at h0
      · cases h0
      · split at h0
        · cases h0
        · split at h0
          · assumption
          · cases h0
    unfold okE at h4 ⊢
    rw [List.all_eq_true] at h4 ⊢
    exact fun e he => h4 e (hs e he)
  have hq : ¬ 400 < l.length := by
    intro hq
    unfold chk at h0
    rw [if_neg (by omega), if_pos hq] at h0
    cases h0
  unfold chk
  rw [if_neg (by omega), if_neg (by omega), if_pos hall]
theorem eB_tn {n : Nat} {l : List Ed} (hg : Gr n l) {i j : Nat} : eB (eL (tn l) 60) i j = true ↔ tn l i j = true := by
  rw [eB_true]
  constructor
  · rintro ⟨e, he, h1, h2⟩
    obtain ⟨a, b, _, _, h3, rfl⟩ := mem_eL.1 he
    simp only at h1 h2
    obtain rfl : a = i := by omega
    obtain rfl : b = j := by omega
    exact h3
  · intro h
    have h1 := hg.lt (tn_eB h)
    have h2 := hg.n60
    exact ⟨⟨(i : Int), (j : Int)⟩, mem_eL.2 ⟨i, j, by omega, by omega, h, rfl⟩, rfl, rfl⟩
theorem rch_mono {s r : Nat → Nat → Bool} (h : ∀ i j, s i j = true → r i j = true) {i j : Nat} (hr : Rch s i j) : Rch r i j := by
  induction hr with
  | one e => exact .one (h _ _ e)
  | more e _ ih => exact .more (h _ _ e) ih
theorem wB_thin {n : Int} {l : List Ed} (h : te n l = 0) : wB (tl n l) = wB l := by
  obtain ⟨h0, hac, e1⟩ := te_zero h
  have hg := chk_gr h0
  have hg' := chk_gr (chk_sub h0 (fun e => tl_sub (n := n)) (tl_len n l))
  funext i j
  rw [Bool.eq_iff_iff, wB_iff hg', wB_iff hg, ← rch_thin_iff hg hac, e1]
  exact ⟨rch_mono fun _ _ => (eB_tn hg).1, rch_mono fun _ _ => (eB_tn hg).2⟩
/-- The thin graph's closure is the graph's. -/
theorem close_thin {n : Int} {l : List Ed} (h : te n l = 0) : ce n (tl n l) = ce n l ∧ cl n (tl n l) = cl n l := by
  obtain ⟨h0, hac, e1⟩ := te_zero h
  have h0' := chk_sub h0 (fun e => tl_sub (n := n)) (tl_len n l)
  have hw := wB_thin h
  unfold ce cl
  rw [h0, h0', hw]
  exact ⟨rfl, rfl⟩
theorem nE_mono {r s : Nat → Nat → Bool} (h : ∀ i j, r i j = true → s i j = true) : ∀ m, nE r m ≤ nE s m
  | 0 => Nat.le_refl _
  | m + 1 => by
    have := nE_mono h m
    have := flt_le (h m) (List.range 60)
    unfold nE bl
    omega
theorem nE_less {r s : Nat → Nat → Bool} (h : ∀ i j, r i j = true → s i j = true) {i j : Nat} (hj : j < 60) (hs : s i j = true) (hr : ¬ r i j = true) : ∀ m, i < m → nE r m < nE s m
  | m + 1, hm => by
    unfold nE bl
    by_cases e : i = m
    · subst e
      have := nE_mono h i
      have := flt_lt (h i) hs hr (List.range 60) (by simpa using hj)
      omega
    · have := nE_less h hj hs hr m (by omega)
      have := flt_le (h m) (List.range 60)
      omega
/-- Without one of its edges less is closed. -/
theorem thin_less {n : Int} {l : List Ed} (h : te n l = 0) (hc : ce n l = 0) {k : Nat} (hk : k < (tl n l).length) : ce n ((tl n l).eraseIdx k) = 0 ∧ (cl n ((tl n l).eraseIdx k)).length < (cl n l).length := by
  obtain ⟨h0, hac, e1⟩ := te_zero h
  obtain ⟨_, h4⟩ := ce_again hc
  have hg := chk_gr h0
  have hsub : ∀ e ∈ (tl n l).eraseIdx k, e ∈ tl n l := fun e he => List.mem_of_mem_eraseIdx he
  have hlen : ((tl n l).eraseIdx k).length ≤ l.length := by
    have := tl_len n l
    rw [List.length_eraseIdx]
    split <;> omega
  have h0' := chk_sub h0 (fun e he => tl_sub (n := n) (hsub e he)) hlen
  have hg' := chk_gr h0'
  have hin : ∀ e, e ∈ tl n l → e ∈ eL (tn l) 60 := fun e he => by rwa [e1] at he
  obtain ⟨i, j, hi, hj, h3, he⟩ := mem_eL.1 (hin _ (List.getElem_mem hk))
  have hE : ∀ a b, eB ((tl n l).eraseIdx k) a b = true → tn l a b = true := fun a b hab => by
    refine (eB_tn hg).1 ?_
    rw [← e1]
    obtain ⟨e, he, hx⟩ := eB_true.1 hab
    exact eB_true.2 ⟨e, hsub e he, hx⟩
  have hL : ∀ a b, Rch (eB ((tl n l).eraseIdx k)) a b → Rch (eB l) a b := fun a b hab => rch_mono (fun x y hx => tn_eB (hE x y hx)) hab
  have hno : ¬ Rch (eB ((tl n l).eraseIdx k)) i j := by
    intro hr
    cases hr with
    | one e =>
      obtain ⟨x, hx, h1, h2⟩ := eB_true.1 e
      have hxe : x = (tl n l)[k] := by rw [he]; cases x; simp only at h1 h2; rw [h1, h2]
      rw [hxe, List.mem_eraseIdx_iff_getElem] at hx
      obtain ⟨m, hm, hmk, hx⟩ := hx
      have hp := List.pairwise_iff_getElem.1 (tl_nodup n l)
      rcases Nat.lt_or_gt_of_ne hmk with hlt | hgt
      · exact hp m k hm hk hlt hx
      · exact hp k m hk hm hgt hx.symm
    | more e r => exact tn_no hg h3 (.one (tn_eB (hE _ _ e))) (hL _ _ r)
  have hlt : nE (wB ((tl n l).eraseIdx k)) 60 < nE (wB l) 60 := nE_less (fun a b hab => (wB_iff hg).2 (hL a b ((wB_iff hg').1 hab))) hj ((wB_iff hg).2 (.one (tn_eB h3))) (fun e => hno ((wB_iff hg').1 e)) 60 hi
  constructor
  · rw [ce, if_pos h0', if_neg (by omega)]
  · rw [cl, cl, if_pos ⟨h0', by omega⟩, if_pos ⟨h0, h4⟩, eL_len, eL_len]
    exact hlt
end Go.Proofs.YtncjnmlgkhngaaaDoor
