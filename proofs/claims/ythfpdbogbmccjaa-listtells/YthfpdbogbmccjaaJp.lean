/- GRAHAM: with the longest jobs first the greatest sum is at most a third more than what it must be, but for a third of a hand's part. Mathematics alone; no program is named here. -/
import Derived.Test.YthfpdbogbmccjaaJd
namespace Go.Proofs.Ythfpdbogbmccjaa
set_option linter.unusedSectionVars false
set_option linter.unusedVariables false

/-- A row of all numbers below n. -/
structure Perm0 (n : Nat) (R : List Nat) : Prop where
  len : R.length = n
  perm : R.Perm (List.range n)
theorem Perm0.range (n : Nat) : Perm0 n (List.range n) := ⟨by simp, List.Perm.refl _⟩
theorem Perm0.lt {n : Nat} {R : List Nat} (h : Perm0 n R) : ∀ i ∈ R, i < n := fun i hi => List.mem_range.1 (h.perm.mem_iff.1 hi)
theorem Perm0.nodup {n : Nat} {R : List Nat} (h : Perm0 n R) : R.Nodup := h.perm.nodup_iff.2 List.nodup_range
/-- The greatest ones first, those of one size in order. -/
def Dwn (l : List Int) (R : List Nat) : Prop := ∀ p q, p < q → q < R.length → nm l (R.getD q 0) < nm l (R.getD p 0) ∨ (nm l (R.getD q 0) = nm l (R.getD p 0) ∧ R.getD p 0 < R.getD q 0)

/-- What hand b works of the jobs in P. -/
def wkR (c : Nat → Int) (f : Nat → Nat) (P : List Nat) (b : Nat) : Int := sumR (P.map fun i => if f i = b then c i else 0)
theorem wkR_cons (c : Nat → Int) (f : Nat → Nat) (i : Nat) (P : List Nat) (b : Nat) : wkR c f (i :: P) b = (if f i = b then c i else 0) + wkR c f P b := rfl
theorem wkR_tot {c : Nat → Int} {f : Nat → Nat} {m : Nat} : ∀ {P : List Nat}, (∀ i ∈ P, f i < m) → sumF (wkR c f P) m = sumR (P.map c) := by
  intro P
  induction P with
  | nil => intro _; exact sumF_zero fun _ _ => rfl
  | cons i P ih =>
    intro h
    have e : sumF (wkR c f (i :: P)) m = sumF (fun b => (if f i = b then c i else 0) + wkR c f P b) m := sumF_congr fun b _ => wkR_cons c f i P b
    rw [e, sumF_add, sumF_one, if_pos (h i (List.mem_cons_self ..)), ih fun j hj => h j (List.mem_cons_of_mem _ hj)]
    rfl
theorem wkR_filter (c : Nat → Int) (f : Nat → Nat) (b : Nat) : ∀ P : List Nat, wkR c f P b = sumR ((P.filter fun i => decide (f i = b)).map c) := by
  intro P
  induction P with
  | nil => rfl
  | cons i P ih =>
    rw [wkR_cons, ih]
    by_cases e : f i = b
    · rw [if_pos e, List.filter_cons_of_pos (by simpa using e)]; rfl
    · rw [if_neg e, List.filter_cons_of_neg (by simpa using e)]; omega
theorem sumR_map_nonneg {E : Nat → Int} : ∀ {P : List Nat}, (∀ i ∈ P, 0 ≤ E i) → 0 ≤ sumR (P.map E) := by
  intro P
  induction P with
  | nil => intro _; exact Int.le_refl _
  | cons i P ih =>
    intro h
    have h1 := ih fun j hj => h j (List.mem_cons_of_mem _ hj)
    have h2 := h i (List.mem_cons_self ..)
    rw [List.map_cons, sumR]; omega
theorem sumR_range (E : Nat → Int) : ∀ n, sumR ((List.range n).map E) = sumF E n := by
  intro n
  induction n with
  | zero => rfl
  | succ n ih => rw [List.range_succ, List.map_append, sumR_app, ih, sumF]; simp [sumR]
theorem perm_sumF {n : Nat} {R : List Nat} (h : Perm0 n R) (E : Nat → Int) : sumR (R.map E) = sumF E n := by
  rw [sumR_perm (h.perm.map E), sumR_range]
theorem take_sum_le {n t : Nat} {R : List Nat} (h : Perm0 n R) {E : Nat → Int} (hE : ∀ i, i < n → 0 ≤ E i) : sumR ((R.take t).map E) ≤ sumF E n := by
  rw [← perm_sumF h E]
  have e : R.map E = (R.take t).map E ++ (R.drop t).map E := by rw [← List.map_append, List.take_append_drop]
  rw [e, sumR_app]
  have := sumR_map_nonneg (E := E) (P := R.drop t) fun i hi => hE i (h.lt i (List.mem_of_mem_drop hi))
  omega

/-! ### What the hands of the jobs come to, in whatever order -/
theorem lsA_wk {l : List Int} {m : Nat} (hm : 1 ≤ m) : ∀ (N : Nat) (P : List Nat), P.length = N → P.Nodup → ∀ b, (lsA l m P).W b = wkR (nm l) (fun i => ((lsA l m P).on i).toNat) P b := by
  intro N
  induction N with
  | zero =>
    intro P hN _ b
    have : P = [] := List.length_eq_zero_iff.1 hN
    subst this
    rfl
  | succ N ih =>
    intro P hN hP b
    obtain ⟨Q, j, rfl⟩ : ∃ Q j, P = Q ++ [j] := by
      have hne : P ≠ [] := by intro e; rw [e] at hN; simp at hN
      exact ⟨P.dropLast, P.getLast hne, (List.dropLast_concat_getLast hne).symm⟩
    have hQ : Q.length = N := by simp at hN; exact hN
    rw [List.nodup_append] at hP
    have h2 := ih Q hQ hP.1
    have hj : ∀ i ∈ Q, i ≠ j := fun i hi => hP.2.2 i hi j (by simp)
    rw [lsA_snoc]
    generalize lsA l m Q = s at *
    show fp s.W (lm s.W m) (s.W (lm s.W m) + nm l j) b = sumR ((Q ++ [j]).map fun i => if (fp s.on j (lm s.W m : Int) i).toNat = b then nm l i else 0)
    rw [List.map_append, sumR_app, List.map_congr_left (g := fun i => if (s.on i).toNat = b then nm l i else 0) fun i hi => by rw [fp_ne (hj i hi)]]
    have e3 : sumR (Q.map fun i => if (s.on i).toNat = b then nm l i else 0) = s.W b := (h2 b).symm
    rw [e3]
    show _ = s.W b + sumR [if (fp s.on j (lm s.W m : Int) j).toNat = b then nm l j else 0]
    rw [fp_same, Int.toNat_natCast]
    by_cases e : lm s.W m = b
    · rw [if_pos e, e, fp_same]; simp [sumR]
    · rw [if_neg e, fp_ne (fun x => e x.symm)]; simp [sumR]
theorem lsA_spF {l : List Int} {m : Nat} (hm : 1 ≤ m) {R : List Nat} (hR : Perm0 l.length R) (b : Nat) : (lsA l m R).W b = spF l (lsA l m R).on l.length b := by
  rw [lsA_wk hm _ R rfl hR.nodup b, spF_sum, ← perm_sumF hR]
  rfl

/-! ### One hand -/
def cst (k x p : Int) : Int := if k < p + x then 2 else 1
theorem cst_bounds (k x p : Int) : 1 ≤ cst k x p ∧ cst k x p ≤ 2 := by unfold cst; split <;> omega
theorem opt_hand {k x : Int} (hx : k < 3 * x) (h0 : 0 ≤ k) : ∀ L : List Int, (∀ p ∈ L, x ≤ p) → sumR L ≤ k → sumR (L.map (cst k x)) ≤ 2 := by
  intro L hL hs
  match L, hL, hs with
  | [], _, _ => simp [sumR]
  | [p], _, _ => have := cst_bounds k x p; simp [sumR]; omega
  | [p, q], hL, hs =>
    have hp := hL p (by simp)
    have hq := hL q (by simp)
    simp [sumR] at hs ⊢
    have e1 : cst k x p = 1 := by unfold cst; rw [if_neg (by omega)]
    have e2 : cst k x q = 1 := by unfold cst; rw [if_neg (by omega)]
    omega
  | p :: q :: r :: T, hL, hs =>
    exfalso
    have hp := hL p (by simp)
    have hq := hL q (by simp)
    have hr := hL r (by simp)
    have hT : 0 ≤ sumR T := by
      have : ∀ T' : List Int, (∀ p ∈ T', x ≤ p) → 0 ≤ sumR T' := by
        intro T'
        induction T' with
        | nil => intro _; exact Int.le_refl _
        | cons a T' ih => intro h; have h1 := ih (fun p hp => h p (List.mem_cons_of_mem _ hp)); have h2 := h a (by simp); rw [sumR]; omega
      exact this T fun p hp => hL p (by simp [hp])
    simp only [sumR] at hs
    omega
theorem grd_hand {k x : Int} (hx : k < 3 * x) (h0 : x ≤ k) : ∀ L : List Int, (∀ p ∈ L, x ≤ p) → k < sumR L + x → 2 ≤ sumR (L.map (cst k x)) := by
  intro L hL hs
  match L, hL, hs with
  | [], _, hs => simp [sumR] at hs; omega
  | [p], _, hs =>
    simp [sumR] at hs ⊢
    unfold cst
    rw [if_pos (by omega)]
    omega
  | p :: q :: T, hL, hs =>
    have hT : 0 ≤ sumR (T.map (cst k x)) := by
      have : ∀ T' : List Int, 0 ≤ sumR (T'.map (cst k x)) := by
        intro T'
        induction T' with
        | nil => exact Int.le_refl _
        | cons a T' ih => have h2 := cst_bounds k x a; rw [List.map_cons, sumR]; omega
      exact this T
    have h1 := cst_bounds k x p
    have h2 := cst_bounds k x q
    simp only [List.map_cons, sumR]
    omega

/-! ### The bound -/
theorem getD_mem {R : List Nat} {t : Nat} (h : t < R.length) : R.getD t 0 ∈ R := by simp [h]
theorem take_snocN {R : List Nat} {t : Nat} (h : t < R.length) : R.take (t + 1) = R.take t ++ [R.getD t 0] := by
  rw [List.take_succ_eq_append_getElem h]
  simp [h]
theorem sumR_map_comp (l : List Int) (c : Int → Int) : ∀ P : List Nat, sumR (P.map fun i => c (nm l i)) = sumR ((P.map (nm l)).map c) := by
  intro P
  rw [List.map_map]
  rfl
theorem lpt_opt {l : List Int} {m t : Nat} {k : Int} {R : List Nat} {f : Nat → Nat} (hR : Perm0 l.length R) (hD : Dwn l R) (hl : ∀ x ∈ l, 0 ≤ x) (hf : ∀ i, i < l.length → f i < m) (hv : ∀ b, b < m → ldF l f (2 ^ l.length - 1) b ≤ k) (ht : t < R.length) (hm : 1 ≤ m) (h0 : 0 ≤ k)
    (hx : k < 3 * nm l (R.getD t 0)) : (lsA l m (R.take t)).W (lm (lsA l m (R.take t)).W m) + nm l (R.getD t 0) ≤ k := by
  obtain ⟨x, hxe⟩ : ∃ x, x = nm l (R.getD t 0) := ⟨_, rfl⟩
  rw [← hxe] at hx ⊢
  have hge : ∀ i ∈ R.take (t + 1), x ≤ nm l i := fun i hi => by
    obtain ⟨p, hp, rfl⟩ := List.getElem_of_mem hi
    rw [List.length_take] at hp
    rw [List.getElem_take]
    have e : R[p]'(by omega) = R.getD p 0 := by simp [show p < R.length by omega]
    rw [e, hxe]
    by_cases e2 : p = t
    · rw [e2]; exact Int.le_refl _
    · rcases hD p t (by omega) ht with h | h <;> omega
  have hopt : ∀ b, b < m → wkR (nm l) f (R.take (t + 1)) b ≤ k := fun b hb => by
    refine Int.le_trans ?_ (hv b hb)
    have := take_sum_le hR (t := t + 1) (E := fun i => if f i = b then nm l i else 0) (fun i hi => by
      show 0 ≤ if f i = b then nm l i else 0
      split
      · exact hl _ (nm_mem hi)
      · exact Int.le_refl _)
    refine Int.le_trans this (Int.le_of_eq ?_)
    refine sumF_congr fun i hi => ?_
    simp only [full_bit hi, true_and]
  have hmem : ∀ i ∈ R.take (t + 1), i < l.length := fun i hi => hR.lt i (List.mem_of_mem_take hi)
  -- what the ways' hands cost
  have c1 : sumF (wkR (fun i => cst k x (nm l i)) f (R.take (t + 1))) m ≤ (m : Int) * 2 := sumF_le fun b hb => by
    rw [wkR_filter, sumR_map_comp]
    refine opt_hand hx h0 _ (fun p hp => ?_) (by rw [← wkR_filter]; exact hopt b hb)
    obtain ⟨i, hi, rfl⟩ := List.mem_map.1 hp
    exact hge i ((List.mem_filter.1 hi).1)
  rw [wkR_tot fun i hi => hf i (hmem i hi)] at c1
  have hxk : x ≤ k := by
    have h2 := hopt (f (R.getD t 0)) (hf _ (hR.lt _ (getD_mem ht)))
    rw [take_snocN ht] at h2
    have e : wkR (nm l) f (R.take t ++ [R.getD t 0]) (f (R.getD t 0)) = wkR (nm l) f (R.take t) (f (R.getD t 0)) + x := by
      show sumR (List.map _ (R.take t ++ [R.getD t 0])) = _
      rw [List.map_append, sumR_app, hxe]
      show _ + sumR [if f (R.getD t 0) = f (R.getD t 0) then nm l (R.getD t 0) else 0] = _
      rw [if_pos rfl]
      show wkR (nm l) f (R.take t) (f (R.getD t 0)) + (nm l (R.getD t 0) + 0) = _
      omega
    rw [e] at h2
    have h3 : 0 ≤ wkR (nm l) f (R.take t) (f (R.getD t 0)) := sumR_map_nonneg fun i hi => by
      show 0 ≤ if _ then nm l i else 0
      split
      · exact hl _ (nm_mem (hR.lt i (List.mem_of_mem_take hi)))
      · exact Int.le_refl _
    omega
  by_cases hle : (lsA l m (R.take t)).W (lm (lsA l m (R.take t)).W m) + x ≤ k
  · exact hle
  exfalso
  have hnd : (R.take t).Nodup := (List.take_sublist t R).nodup hR.nodup
  have hon : ∀ i, 0 ≤ (lsA l m (R.take t)).on i ∧ (lsA l m (R.take t)).on i < (m : Int) := lsA_on hm (R.take t) _ fun i => ⟨Int.le_refl _, by show (0 : Int) < m; omega⟩
  have hwk := lsA_wk (l := l) hm _ (R.take t) rfl hnd
  have c2 : (m : Int) * 2 ≤ sumF (wkR (fun i => cst k x (nm l i)) (fun i => ((lsA l m (R.take t)).on i).toNat) (R.take t)) m := sumF_ge fun b hb => by
    rw [wkR_filter, sumR_map_comp]
    refine grd_hand hx hxk _ (fun p hp => ?_) ?_
    · obtain ⟨i, hi, rfl⟩ := List.mem_map.1 hp
      refine hge i ?_
      rw [take_snocN ht]
      exact List.mem_append_left _ ((List.mem_filter.1 hi).1)
    · rw [← wkR_filter, ← hwk b]
      have := lm_le (lsA l m (R.take t)).W b hb
      omega
  rw [wkR_tot fun i hi => by have := hon i; omega] at c2
  rw [take_snocN ht, List.map_append, sumR_app] at c1
  have h9 := cst_bounds k x (nm l (R.getD t 0))
  have e9 : sumR ([R.getD t 0].map fun i => cst k x (nm l i)) = cst k x (nm l (R.getD t 0)) + 0 := rfl
  rw [e9] at c1
  omega
theorem lpt_all {l : List Int} {m : Nat} {k : Int} {R : List Nat} (hR : Perm0 l.length R) (hD : Dwn l R) (hl : ∀ x ∈ l, 0 ≤ x) (hm : 1 ≤ m) (hw : Way l m (2 ^ l.length - 1) k) : ∀ t, t ≤ R.length → ∀ b, b < m → 3 * ((m : Int) * (lsA l m (R.take t)).W b) ≤ 4 * ((m : Int) * k) - k := by
  obtain ⟨f, hf, hv⟩ := hw
  have h0 : 0 ≤ k := Int.le_trans (ldF_nonneg hl f _ 0) (hv 0 (by omega))
  have hmk : k ≤ (m : Int) * k := by
    have := Int.mul_le_mul_of_nonneg_right (show (1 : Int) ≤ m by omega) h0
    omega
  have htot : ∀ t, sumR ((R.take t).map (nm l)) ≤ (m : Int) * k := fun t => by
    refine Int.le_trans (take_sum_le hR fun i hi => hl _ (nm_mem hi)) ?_
    rw [← sumR_all, ← ld_tot hf]
    exact sumF_le hv
  intro t
  induction t with
  | zero =>
    intro _ b _
    show 3 * ((m : Int) * 0) ≤ _
    omega
  | succ t ih =>
    intro ht b hb
    have hi := ih (by omega)
    have hlt := hR.lt _ (getD_mem (show t < R.length by omega))
    have hx0 := hl _ (nm_mem hlt)
    have hopt := lpt_opt hR hD hl hf hv (show t < R.length by omega) hm h0
    have hT := htot (t + 1)
    have hlm := lm_lt (lsA l m (R.take t)).W hm
    have hgr : ∀ y, (∀ z ∈ l, 0 ≤ z ∧ z ≤ y) → 0 ≤ y → sumF (lsA l m (R.take t)).W m = sumR ((R.take t).map (nm l)) := fun y hy hy0 => (lsA_grh hm hy0 hy (R := R.take t) fun i hi => hR.lt i (List.mem_of_mem_take hi)).tot
    have hsum : sumF (lsA l m (R.take t)).W m = sumR ((R.take t).map (nm l)) := by
      have h5 := lsA_wk (l := l) hm _ (R.take t) rfl ((List.take_sublist t R).nodup hR.nodup)
      rw [sumF_congr fun b _ => h5 b, wkR_tot]
      intro i hi
      have := lsA_on (l := l) hm (R.take t) ⟨fun _ => 0, fun _ => 0⟩ (fun i => ⟨Int.le_refl _, by show (0 : Int) < m; omega⟩) i
      show ((lsA l m (R.take t)).on i).toNat < m
      unfold lsA
      omega
    have hT2 := sumF_ge (E := (lsA l m (R.take t)).W) (a := (lsA l m (R.take t)).W (lm (lsA l m (R.take t)).W m)) (m := m) fun b hb => lm_le _ b hb
    rw [hsum] at hT2
    rw [take_snocN (by omega), List.map_append, sumR_app] at hT
    rw [take_snocN (by omega), lsA_snoc]
    generalize lsA l m (R.take t) = s at *
    generalize sumR ((R.take t).map (nm l)) = T at *
    generalize hxe : nm l (R.getD t 0) = x at *
    have e8 : sumR ([R.getD t 0].map (nm l)) = nm l (R.getD t 0) + 0 := rfl
    rw [e8, hxe] at hT
    have hT3 : T + x ≤ (m : Int) * k := by omega
    show 3 * ((m : Int) * fp s.W (lm s.W m) (s.W (lm s.W m) + nm l (R.getD t 0)) b) ≤ _
    rw [hxe]
    by_cases e : b = lm s.W m
    · rw [e, fp_same]
      by_cases hc : k < 3 * x
      · have h1 := Int.mul_le_mul_of_nonneg_left (hopt hc) (show (0 : Int) ≤ m by omega)
        omega
      · have e1 : (m : Int) * (s.W (lm s.W m) + x) = (m : Int) * s.W (lm s.W m) + (m : Int) * x := Int.mul_add _ _ _
        have e2 : ((m : Int) - 1) * (3 * x) ≤ ((m : Int) - 1) * k := Int.mul_le_mul_of_nonneg_left (by omega) (by omega)
        have e3 : ((m : Int) - 1) * (3 * x) = 3 * ((m : Int) * x) - 3 * x := by rw [Int.sub_mul, Int.mul_left_comm]; omega
        have e4 : ((m : Int) - 1) * k = (m : Int) * k - k := by rw [Int.sub_mul]; omega
        omega
    · rw [fp_ne e]
      exact hi b hb
theorem lpt {l : List Int} {m : Nat} {k : Int} {R : List Nat} (hR : Perm0 l.length R) (hD : Dwn l R) (hl : ∀ x ∈ l, 0 ≤ x) (hm : 1 ≤ m) (hw : Way l m (2 ^ l.length - 1) k) : 3 * ((m : Int) * xm (lsA l m R).W m) ≤ 4 * ((m : Int) * k) - k := by
  obtain ⟨c, hc, e⟩ := xm_is (lsA l m R).W hm
  have := lpt_all hR hD hl hm hw R.length (Nat.le_refl _) c hc
  rw [List.take_length] at this
  rw [e]
  exact this
end Go.Proofs.Ythfpdbogbmccjaa
