/- Mathematics of jobs on several hands: sums; what is added up by hands; the hand that has worked least. No program is named here. -/
import Derived.Test.YthfpdbogbmccjaaDoorOkb
namespace Go.Proofs.YthfpdbogbmccjaaDoor
open Go.RowKit Gm Pm
set_option linter.unusedSectionVars false
set_option linter.unusedVariables false
def sumF (E : Nat → Int) : Nat → Int
  | 0 => 0
  | m + 1 => sumF E m + E m
theorem sumF_congr {E E' : Nat → Int} : ∀ {m : Nat}, (∀ b, b < m → E b = E' b) → sumF E m = sumF E' m := by
  intro m
  induction m with
  | zero => intro _; rfl
  | succ m ih => intro h; rw [sumF, sumF, ih fun b hb => h b (by omega), h m (by omega)]
theorem sumF_fp (E : Nat → Int) (b : Nat) (v : Int) : ∀ {m : Nat}, b < m → sumF (fp E b v) m = sumF E m - E b + v := by
  intro m
  induction m with
  | zero => intro h; omega
  | succ m ih =>
    intro h
    rw [sumF, sumF]
    by_cases e : b = m
    · subst e
      rw [fp_same, sumF_congr (E := fp E b v) (E' := E) fun c hc => fp_ne (by omega)]
      omega
    · rw [ih (by omega), fp_ne (fun x => e x.symm)]
      omega
theorem mul_succ' (m : Nat) (a : Int) : ((m + 1 : Nat) : Int) * a = (m : Int) * a + a := by rw [Int.natCast_add, Int.add_mul]; simp
theorem sumF_ge {E : Nat → Int} {a : Int} : ∀ {m : Nat}, (∀ b, b < m → a ≤ E b) → (m : Int) * a ≤ sumF E m := by
  intro m
  induction m with
  | zero => intro _; simp [sumF]
  | succ m ih =>
    intro h
    have h1 := ih fun b hb => h b (by omega)
    have h2 := h m (by omega)
    rw [sumF, mul_succ']
    omega
theorem sumF_le {E : Nat → Int} {a : Int} : ∀ {m : Nat}, (∀ b, b < m → E b ≤ a) → sumF E m ≤ (m : Int) * a := by
  intro m
  induction m with
  | zero => intro _; simp [sumF]
  | succ m ih =>
    intro h
    have h1 := ih fun b hb => h b (by omega)
    have h2 := h m (by omega)
    rw [sumF, mul_succ']
    omega
theorem sumF_mono {E E' : Nat → Int} : ∀ {m : Nat}, (∀ b, b < m → E b ≤ E' b) → sumF E m ≤ sumF E' m := by
  intro m
  induction m with
  | zero => intro _; exact Int.le_refl _
  | succ m ih =>
    intro h
    have h1 := ih fun b hb => h b (by omega)
    have h2 := h m (by omega)
    rw [sumF, sumF]
    omega
theorem sumF_add (E E' : Nat → Int) : ∀ m : Nat, sumF (fun b => E b + E' b) m = sumF E m + sumF E' m := by
  intro m
  induction m with
  | zero => rfl
  | succ m ih => rw [sumF, sumF, sumF, ih]; omega
theorem sumF_zero {E : Nat → Int} : ∀ {m : Nat}, (∀ b, b < m → E b = 0) → sumF E m = 0 := by
  intro m
  induction m with
  | zero => intro _; rfl
  | succ m ih => intro h; rw [sumF, ih fun b hb => h b (by omega), h m (by omega)]; rfl
/-- One number among zeros. -/
theorem sumF_one (x : Int) (k : Nat) : ∀ m : Nat, sumF (fun b => if k = b then x else 0) m = if k < m then x else 0 := by
  intro m
  induction m with
  | zero => rfl
  | succ m ih =>
    rw [sumF, ih]
    by_cases h1 : k < m
    · rw [if_pos h1, if_neg (by omega), if_pos (by omega)]; omega
    · by_cases h2 : k = m
      · rw [if_neg h1, if_pos h2, if_pos (by omega)]; omega
      · rw [if_neg h1, if_neg h2, if_neg (by omega)]; omega
def sumR : List Int → Int
  | [] => 0
  | x :: r => x + sumR r
theorem sumR_perm {a b : List Int} (h : a.Perm b) : sumR a = sumR b := by
  induction h with
  | nil => rfl
  | cons x _ ih => simp only [sumR, ih]
  | swap x y l => simp only [sumR]; omega
  | trans _ _ h1 h2 => exact h1.trans h2
theorem sumR_app (a b : List Int) : sumR (a ++ b) = sumR a + sumR b := by
  induction a with
  | nil => simp [sumR]
  | cons x r ih => simp only [List.cons_append, sumR, ih]; omega
theorem map_nm (l : List Int) : (List.range l.length).map (nm l) = l := by
  apply List.ext_getElem
  · simp
  · intro k h1 h2
    simp [nm_get h2]
theorem sumR_take {l : List Int} {j : Nat} (hj : j < l.length) : sumR (l.take (j + 1)) = sumR (l.take j) + nm l j := by
  rw [take_nm hj, sumR_app]
  simp [sumR]
theorem sumR_sumF (l : List Int) : ∀ j, j ≤ l.length → sumR (l.take j) = sumF (nm l) j := by
  intro j
  induction j with
  | zero => intro _; simp [sumR, sumF]
  | succ j ih => intro h; rw [sumR_take (by omega), ih (by omega), sumF]
theorem sumR_all (l : List Int) : sumR l = sumF (nm l) l.length := by
  rw [← sumR_sumF l l.length (Nat.le_refl _), List.take_length]

/-! ### The least and the greatest of a row -/
/-- The place of the first least one. -/
def lm (W : Nat → Int) : Nat → Nat
  | 0 => 0
  | m + 1 => if W m < W (lm W m) then m else lm W m
theorem lm_lt (W : Nat → Int) : ∀ {m : Nat}, 1 ≤ m → lm W m < m := by
  intro m
  induction m with
  | zero => intro h; omega
  | succ m ih =>
    intro _
    rw [lm]
    split
    · omega
    · by_cases e : m = 0
      · subst e; exact Nat.zero_lt_one
      · have := ih (by omega); omega
theorem lm_le (W : Nat → Int) : ∀ {m : Nat} c, c < m → W (lm W m) ≤ W c := by
  intro m
  induction m with
  | zero => intro c h; omega
  | succ m ih =>
    intro c hc
    rw [lm]
    by_cases e : c = m
    · subst e
      split <;> omega
    · have := ih c (by omega)
      split <;> omega
theorem lm_first (W : Nat → Int) : ∀ {m : Nat} c, c < lm W m → W (lm W m) < W c := by
  intro m
  induction m with
  | zero => intro c h; simp [lm] at h
  | succ m ih =>
    intro c hc
    rw [lm] at hc ⊢
    by_cases h : W m < W (lm W m)
    · rw [if_pos h] at hc ⊢
      by_cases e : c < m
      · have := lm_le W c e; omega
      · omega
    · rw [if_neg h] at hc ⊢
      exact ih c hc
theorem lm_one (W : Nat → Int) : lm W 1 = 0 := by
  rw [lm]
  show (if W 0 < W (lm W 0) then 0 else lm W 0) = 0
  split <;> rfl
/-- The greatest one. -/
def xm (W : Nat → Int) : Nat → Int
  | 0 => W 0
  | m + 1 => if xm W m < W m then W m else xm W m
theorem xm_ge (W : Nat → Int) : ∀ {m : Nat} c, c < m → W c ≤ xm W m := by
  intro m
  induction m with
  | zero => intro c h; omega
  | succ m ih =>
    intro c hc
    rw [xm]
    by_cases e : c = m
    · subst e
      split <;> omega
    · have := ih c (by omega)
      split <;> omega
theorem xm_is (W : Nat → Int) : ∀ {m : Nat}, 1 ≤ m → ∃ c, c < m ∧ xm W m = W c := by
  intro m
  induction m with
  | zero => intro h; omega
  | succ m ih =>
    intro _
    rw [xm]
    by_cases h : xm W m < W m
    · rw [if_pos h]; exact ⟨m, by omega, rfl⟩
    · rw [if_neg h]
      by_cases e : m = 0
      · subst e; exact ⟨0, by omega, rfl⟩
      · obtain ⟨c, hc, e2⟩ := ih (by omega)
        exact ⟨c, by omega, e2⟩
theorem xm_one (W : Nat → Int) : xm W 1 = W 0 := by
  rw [xm]
  show (if W 0 < W 0 then W 0 else W 0) = W 0
  split <;> rfl
theorem xm_congr {W W' : Nat → Int} : ∀ {m : Nat}, 1 ≤ m → (∀ b, b < m → W b = W' b) → xm W m = xm W' m := by
  intro m
  induction m with
  | zero => intro h; omega
  | succ m ih =>
    intro _ h
    by_cases e : m = 0
    · subst e; rw [xm_one, xm_one]; exact h 0 (by omega)
    · rw [xm, xm, ih (by omega) fun b hb => h b (by omega), h m (by omega)]

/-! ### Jobs given to the hand that has worked least -/
structure Ls where
  W : Nat → Int
  on : Nat → Int
def lst (l : List Int) (m : Nat) (s : Ls) (i : Nat) : Ls := ⟨fp s.W (lm s.W m) (s.W (lm s.W m) + nm l i), fp s.on i (lm s.W m : Int)⟩
def lsA (l : List Int) (m : Nat) (R : List Nat) : Ls := R.foldl (lst l m) ⟨fun _ => 0, fun _ => 0⟩
theorem lsA_snoc (l : List Int) (m : Nat) (R : List Nat) (i : Nat) : lsA l m (R ++ [i]) = lst l m (lsA l m R) i := by simp [lsA]
/-- What is true all along: all that is done is done by somebody; GRAHAM's bound. -/
structure Grh (m : Nat) (x : Int) (s : Ls) (T : Int) : Prop where
  tot : sumF s.W m = T
  lo : ∀ b, b < m → 0 ≤ s.W b
  gr : ∀ b, b < m → (m : Int) * s.W b ≤ T + ((m : Int) - 1) * x
theorem Grh.step {l : List Int} {m i : Nat} {x : Int} {s : Ls} {T : Int} (h : Grh m x s T) (hm : 1 ≤ m) (hx : 0 ≤ nm l i ∧ nm l i ≤ x) : Grh m x (lst l m s i) (T + nm l i) := by
  have hb := lm_lt s.W hm
  have hT := sumF_ge (E := s.W) (a := s.W (lm s.W m)) (m := m) fun b hb => lm_le s.W b hb
  rw [h.tot] at hT
  refine ⟨?_, fun b hbm => ?_, fun b hbm => ?_⟩
  · show sumF (fp s.W (lm s.W m) (s.W (lm s.W m) + nm l i)) m = _
    rw [sumF_fp _ _ _ hb, h.tot]; omega
  · show 0 ≤ fp s.W (lm s.W m) (s.W (lm s.W m) + nm l i) b
    by_cases e : b = lm s.W m
    · rw [e, fp_same]; have := h.lo _ hb; omega
    · rw [fp_ne e]; exact h.lo b hbm
  · show (m : Int) * fp s.W (lm s.W m) (s.W (lm s.W m) + nm l i) b ≤ _
    by_cases e : b = lm s.W m
    · rw [e, fp_same, Int.mul_add]
      have h2 : ((m : Int) - 1) * nm l i ≤ ((m : Int) - 1) * x := Int.mul_le_mul_of_nonneg_left hx.2 (by omega)
      have h3 : ((m : Int) - 1) * nm l i = (m : Int) * nm l i - nm l i := by rw [Int.sub_mul]; simp
      omega
    · rw [fp_ne e]
      have := h.gr b hbm
      omega
theorem fold_grh {l : List Int} {m : Nat} {x : Int} (hm : 1 ≤ m) (hl : ∀ y ∈ l, 0 ≤ y ∧ y ≤ x) : ∀ (R : List Nat) (s : Ls) (T : Int), (∀ i ∈ R, i < l.length) → Grh m x s T → Grh m x (R.foldl (lst l m) s) (T + sumR (R.map (nm l))) := by
  intro R
  induction R with
  | nil => intro s T _ h; simpa [sumR] using h
  | cons i R ih =>
    intro s T hi h
    have h2 := ih (lst l m s i) (T + nm l i) (fun j hj => hi j (List.mem_cons_of_mem _ hj)) (h.step hm (hl _ (nm_mem (hi i (List.mem_cons_self ..)))))
    rw [List.map_cons, sumR, ← Int.add_assoc]
    exact h2
theorem lsA_grh {l : List Int} {m : Nat} {x : Int} (hm : 1 ≤ m) (hx : 0 ≤ x) (hl : ∀ y ∈ l, 0 ≤ y ∧ y ≤ x) {R : List Nat} (hR : ∀ i ∈ R, i < l.length) : Grh m x (lsA l m R) (sumR (R.map (nm l))) := by
  have h := fold_grh hm hl R ⟨fun _ => 0, fun _ => 0⟩ 0 hR ⟨sumF_zero fun _ _ => rfl, fun b _ => Int.le_refl _, fun b _ => by
    show (m : Int) * 0 ≤ 0 + ((m : Int) - 1) * x
    have := Int.mul_nonneg (show 0 ≤ (m : Int) - 1 by omega) hx
    omega⟩
  rwa [Int.zero_add] at h
theorem lsA_up {l : List Int} {m : Nat} (hm : 1 ≤ m) (hl : ∀ y ∈ l, 0 ≤ y) : ∀ (R : List Nat) (s : Ls), (∀ i ∈ R, i < l.length) → ∀ b, s.W b ≤ (R.foldl (lst l m) s).W b := by
  intro R
  induction R with
  | nil => intro s _ b; exact Int.le_refl _
  | cons i R ih =>
    intro s hi b
    have h1 := ih (lst l m s i) (fun j hj => hi j (List.mem_cons_of_mem _ hj)) b
    refine Int.le_trans ?_ h1
    show s.W b ≤ fp s.W (lm s.W m) (s.W (lm s.W m) + nm l i) b
    by_cases e : b = lm s.W m
    · rw [e, fp_same]; have := hl _ (nm_mem (hi i (List.mem_cons_self ..))); omega
    · rw [fp_ne e]; exact Int.le_refl _
/-- Each job is on some hand, which works at least as long. -/
theorem lsA_has {l : List Int} {m : Nat} (hm : 1 ≤ m) (hl : ∀ y ∈ l, 0 ≤ y) : ∀ (R : List Nat) (s : Ls), (∀ i ∈ R, i < l.length) → (∀ b, b < m → 0 ≤ s.W b) → ∀ i ∈ R, ∃ b, b < m ∧ nm l i ≤ (R.foldl (lst l m) s).W b := by
  intro R
  induction R with
  | nil => intro s _ _ i h; cases h
  | cons j R ih =>
    intro s hi h0 i hiR
    have hR : ∀ i ∈ R, i < l.length := fun k hk => hi k (List.mem_cons_of_mem _ hk)
    have hb := lm_lt s.W hm
    have hj := hl _ (nm_mem (hi j (List.mem_cons_self ..)))
    rcases List.mem_cons.1 hiR with e | hr
    · subst e
      refine ⟨lm s.W m, hb, Int.le_trans ?_ (lsA_up hm hl R (lst l m s i) hR _)⟩
      show nm l i ≤ fp s.W (lm s.W m) (s.W (lm s.W m) + nm l i) (lm s.W m)
      rw [fp_same]; have := h0 _ hb; omega
    · refine ih (lst l m s j) hR (fun b hbm => ?_) i hr
      show 0 ≤ fp s.W (lm s.W m) (s.W (lm s.W m) + nm l j) b
      by_cases e : b = lm s.W m
      · rw [e, fp_same]; have := h0 _ hb; omega
      · rw [fp_ne e]; exact h0 b hbm

/-! ### What each hand works, by the hands of the jobs -/
def spF (l : List Int) (on : Nat → Int) : Nat → Nat → Int
  | 0 => fun _ => 0
  | k + 1 => fp (spF l on k) (on k).toNat (spF l on k (on k).toNat + nm l k)
theorem spF_congr {l : List Int} {on on' : Nat → Int} : ∀ {k : Nat}, (∀ i, i < k → on i = on' i) → spF l on k = spF l on' k := by
  intro k
  induction k with
  | zero => intro _; rfl
  | succ k ih => intro h; rw [spF, spF, ih fun i hi => h i (by omega), h k (by omega)]
theorem spF_sum (l : List Int) (on : Nat → Int) (b : Nat) : ∀ k, spF l on k b = sumF (fun i => if (on i).toNat = b then nm l i else 0) k := by
  intro k
  induction k with
  | zero => rfl
  | succ k ih =>
    rw [spF, sumF, ← ih]
    by_cases e : (on k).toNat = b
    · rw [if_pos e, ← e, fp_same]
    · rw [if_neg e, fp_ne (fun x => e x.symm), Int.add_zero]
theorem range_succ' (k : Nat) : List.range (k + 1) = List.range k ++ [k] := List.range_succ
/-- In order, what the hands work is what comes of the hands that are told. -/
theorem lsA_range (l : List Int) (m : Nat) : ∀ k, (lsA l m (List.range k)).W = spF l (lsA l m (List.range k)).on k := by
  intro k
  induction k with
  | zero => rfl
  | succ k ih =>
    rw [range_succ', lsA_snoc]
    generalize hs : lsA l m (List.range k) = s at *
    show fp s.W (lm s.W m) (s.W (lm s.W m) + nm l k) = spF l (fp s.on k (lm s.W m : Int)) (k + 1)
    rw [spF, fp_same, Int.toNat_natCast, ← spF_congr (on := s.on) (fun i hi => (fp_ne (by omega)).symm), ← ih]
theorem lsA_on {l : List Int} {m : Nat} (hm : 1 ≤ m) : ∀ (R : List Nat) (s : Ls), (∀ i, 0 ≤ s.on i ∧ s.on i < (m : Int)) → ∀ i, 0 ≤ (R.foldl (lst l m) s).on i ∧ (R.foldl (lst l m) s).on i < (m : Int) := by
  intro R
  induction R with
  | nil => intro s h; exact h
  | cons j R ih =>
    intro s h
    refine ih (lst l m s j) fun i => ?_
    show 0 ≤ fp s.on j (lm s.W m : Int) i ∧ fp s.on j (lm s.W m : Int) i < (m : Int)
    by_cases e : i = j
    · rw [e, fp_same]; have := lm_lt s.W hm; omega
    · rw [fp_ne e]; exact h i

end Go.Proofs.YthfpdbogbmccjaaDoor
