/- Mathematics of the fewest boxes: what least finds is enough, and nobody takes fewer. -/
import Derived.Test.YtfnkboegbclnaaaKll
namespace Go.Proofs.Ytfnkboegbclnaaa
open Go.RowKit
set_option linter.unusedSectionVars false
set_option linter.unusedVariables false

theorem bit_rm : ∀ s : Nat, s < 512 → ∀ i : Nat, i < 9 → s.testBit i = true → ∀ j : Nat, j < 9 → (s - 2 ^ i).testBit j = (s.testBit j && !(j == i)) := by decide +kernel
/-- A sum over a set. -/
def tg (g : Nat → Int) (n s : Nat) : Int := sumF (fun j => if s.testBit j = true then g j else 0) n
theorem tg_zero (g : Nat → Int) (n : Nat) : tg g n 0 = 0 := by
  unfold tg
  rw [sumF_congr (E' := fun _ => 0) fun j _ => by simp]
  have h1 := sumF_le (E := fun _ => (0 : Int)) (a := 0) (m := n) fun _ _ => Int.le_refl _
  have h2 := sumF_ge (E := fun _ => (0 : Int)) (a := 0) (m := n) fun _ _ => Int.le_refl _
  simp at h1 h2
  omega
theorem tg_rm {g : Nat → Int} {n s i : Nat} (hn : n ≤ 9) (hs : s < 512) (hi : i < n) (hb : s.testBit i = true) : tg g n s = tg g n (s - 2 ^ i) + g i := by
  unfold tg
  have e : sumF (fun j => if s.testBit j = true then g j else 0) n = sumF (fp (fun j => if (s - 2 ^ i).testBit j = true then g j else 0) i (g i)) n := sumF_congr fun j hj => by
    have h1 := bit_rm s hs i (by omega) hb j (by omega)
    unfold fp
    by_cases ej : j = i
    · rw [if_pos ej, ej, if_pos hb]
    · rw [if_neg ej]
      show _ = (if (s - 2 ^ i).testBit j = true then g j else 0)
      rw [h1]
      have : (j == i) = false := by simpa using ej
      rw [this]
      simp
  have h0 := bit_rm s hs i (by omega) hb i (by omega)
  have h0' : (s - 2 ^ i).testBit i = false := by rw [h0]; simp
  rw [e, sumF_fp _ _ _ hi]
  simp only [h0']
  simp
theorem tg_mono {g : Nat → Int} {n s : Nat} (hg : ∀ j, j < n → 0 ≤ g j) : 0 ≤ tg g n s := by
  have := sumF_ge (E := fun j => if s.testBit j = true then g j else 0) (a := 0) (m := n) fun j hj => by
    try dsimp only
    split
    · exact hg j hj
    · exact Int.le_refl _
  simpa [tg] using this
theorem tg_le {g h : Nat → Int} {n s : Nat} (hg : ∀ j, j < n → s.testBit j = true → g j ≤ h j) : tg g n s ≤ tg h n s := by
  unfold tg
  have key : ∀ m, m ≤ n → sumF (fun j => if s.testBit j = true then g j else 0) m ≤ sumF (fun j => if s.testBit j = true then h j else 0) m := by
    intro m
    induction m with
    | zero => intro _; exact Int.le_refl _
    | succ m ih =>
      intro hm
      have h1 := ih (by omega)
      rw [sumF, sumF]
      by_cases e : s.testBit m = true
      · have := hg m (by omega) e
        simp only [e, if_true]
        omega
      · simp only [e]
        simp
        exact h1
  exact key n (Nat.le_refl _)
theorem tg_congr {g h : Nat → Int} {n s : Nat} (hg : ∀ j, j < n → s.testBit j = true → g j = h j) : tg g n s = tg h n s :=
  Int.le_antisymm (tg_le fun j h1 h2 => by rw [hg j h1 h2]; exact Int.le_refl _) (tg_le fun j h1 h2 => by rw [hg j h1 h2]; exact Int.le_refl _)
theorem tg_full (g : Nat → Int) (n : Nat) : tg g n (2 ^ n - 1) = sumF g n := by
  unfold tg
  exact sumF_congr fun j hj => by rw [Nat.testBit_two_pow_sub_one]; simp [hj]
theorem sumF_nm (l : List Int) : sumF (nm l) l.length = sumR l := by
  have key : ∀ m, m ≤ l.length → sumF (nm l) m = sumR (l.take m) := by
    intro m
    induction m with
    | zero => intro _; rfl
    | succ m ih => intro hm; rw [sumF, ih (by omega), sumR_take (by omega)]
  have := key l.length (Nat.le_refl _)
  rwa [List.take_length] at this

/-- Whether a thing is more than half a box. -/
def bgI (l : List Int) (size : Int) (i : Nat) : Int := if size < 2 * nm l i then 1 else 0
/-- What the boxes of a set hold at least. -/
structure Enf (l : List Int) (size : Int) (n : Nat) (F : Nat → Int × Int) (s : Nat) : Prop where
  one : 1 ≤ (F s).1
  tot : tg (nm l) n s ≤ ((F s).1 - 1) * size + (F s).2
  cnt : (F s).1 ≤ tg (fun _ => 1) n s
  big : tg (bgI l size) n s ≤ (F s).1
  bigr : 2 * (F s).2 ≤ size → tg (bgI l size) n s ≤ (F s).1 - 1
theorem pow9 {n s : Nat} (hn : n ≤ 9) (hs : s < 2 ^ n) : s < 512 := by
  have := Nat.pow_le_pow_right (n := 2) (by omega) hn
  omega
theorem enf_all {l : List Int} {size : Int} {n : Nat} {F : Nat → Int × Int} (hn : n ≤ 9) (h : Opt l size n F (2 ^ n)) (hl : ∀ i, i < n → 1 ≤ nm l i ∧ nm l i ≤ size) : ∀ s, s < 2 ^ n → 0 < s → Enf l size n F s := by
  intro s
  induction s using Nat.strongRecOn with
  | ind s ih =>
    intro hs h0
    obtain ⟨i, hi, hb, e⟩ := (h.spc s h0 hs).way
    have hle := bit_le hb
    have hp := Nat.two_pow_pos i
    have hs9 := pow9 hn hs
    have hx := hl i hi
    have t1 := tg_rm (g := nm l) hn hs9 hi hb
    have t2 := tg_rm (g := fun _ => 1) hn hs9 hi hb
    have t3 := tg_rm (g := bgI l size) hn hs9 hi hb
    have hbd := h.bd (s - 2 ^ i) (by omega)
    have hbi : bgI l size i = if size < 2 * nm l i then 1 else 0 := rfl
    by_cases hz : s - 2 ^ i = 0
    · rw [hz] at e t1 t2 t3
      rw [h.zero] at e
      rw [tg_zero] at t1 t2 t3
      have ew : F s = (1, nm l i) := by rw [e]; unfold wth; rw [if_pos (Or.inl rfl)]; simp
      refine ⟨by rw [ew]; exact Int.le_refl _, by rw [t1, ew]; simp, by rw [t2, ew]; simp, by rw [t3, ew, hbi]; split <;> simp, fun hr => ?_⟩
      rw [ew] at hr ⊢
      rw [t3, hbi, if_neg (by simp only at hr; omega)]
      simp
    · have hI := ih (s - 2 ^ i) (by omega) (by omega) (by omega)
      have i1 := hI.one
      have i2 := hI.tot
      have i3 := hI.cnt
      have i4 := hI.big
      have i5 := hI.bigr
      generalize F (s - 2 ^ i) = f at *
      obtain ⟨k, r⟩ := f
      dsimp only at *
      by_cases hw : size < r + nm l i
      · have ew : F s = (k + 1, nm l i) := by rw [e]; unfold wth; rw [if_pos (Or.inr hw)]
        have e1 : (k + 1 - 1) * size = (k - 1) * size + size := by rw [show k + 1 - 1 = (k - 1) + 1 by omega, Int.add_mul]; simp
        refine ⟨by rw [ew]; dsimp only; omega, by rw [ew]; dsimp only; rw [e1]; omega, by rw [ew]; dsimp only; omega, by rw [ew]; dsimp only; rw [t3, hbi]; split <;> omega, fun hr => ?_⟩
        rw [ew] at hr ⊢
        dsimp only at hr ⊢
        rw [t3, hbi, if_neg (by omega)]
        omega
      · have ew : F s = (k, r + nm l i) := by rw [e]; unfold wth; rw [if_neg (by simp only; omega)]
        refine ⟨by rw [ew]; exact i1, by rw [ew]; dsimp only; omega, by rw [ew]; dsimp only; omega, ?_, fun hr => ?_⟩
        · rw [ew]
          dsimp only
          rw [t3, hbi]
          by_cases hbg : size < 2 * nm l i
          · rw [if_pos hbg]
            have := i5 (by omega)
            omega
          · rw [if_neg hbg]; omega
        · rw [ew] at hr ⊢
          dsimp only at hr ⊢
          rw [t3, hbi, if_neg (by omega)]
          have := i5 (by omega)
          omega

/-! ### Nobody takes fewer -/
def ldI (l : List Int) (A : Nat → Nat) (b : Nat) (i : Nat) : Int := if A i = b then nm l i else 0
theorem wth_mono {f : Int × Int} {k r x size : Int} (hf : lxLe f (k, r - x)) (hk : 1 ≤ k) (hf0 : 0 ≤ f.1 ∧ 0 ≤ f.2) (hx : 1 ≤ x) (hxr : x ≤ r) (hr : r ≤ size) : lxLe (wth f x size) (k, r) := by
  unfold lxLe at *
  unfold wth
  dsimp only at *
  by_cases hw : f.1 = 0 ∨ size < f.2 + x
  · rw [if_pos hw]
    dsimp only
    omega
  · rw [if_neg hw]
    dsimp only
    omega
theorem few_all {l : List Int} {size : Int} {n : Nat} {F : Nat → Int × Int} (hn : n ≤ 9) (h : Opt l size n F (2 ^ n)) (hl : ∀ i, i < n → 1 ≤ nm l i ∧ nm l i ≤ size) : ∀ s, s < 2 ^ n → ∀ (k : Nat) (A : Nat → Nat), (∀ i, i < n → s.testBit i = true → A i < k) → (∀ b, tg (ldI l A b) n s ≤ size) → ∀ b, b < k → lxLe (F s) ((k : Int), tg (ldI l A b) n s) := by
  intro s
  induction s using Nat.strongRecOn with
  | ind s ih =>
    intro hs k A hA hL b hbk
    have hs9 := pow9 hn hs
    have hld : ∀ (A : Nat → Nat) (b j : Nat), j < n → 0 ≤ ldI l A b j := fun A b j hj => by
      unfold ldI
      have := hl j hj
      split <;> omega
    have main : ∀ (k : Nat) (A : Nat → Nat), (∀ i, i < n → s.testBit i = true → A i < k) → (∀ b, tg (ldI l A b) n s ≤ size) → ∀ i, i < n → s.testBit i = true → lxLe (F s) ((k : Int), tg (ldI l A (A i)) n s) := by
      intro k A hA hL i hi hb
      have hle := bit_le hb
      have hp := Nat.two_pow_pos i
      have hx := hl i hi
      have hAi := hA i hi hb
      have hin : ∀ j, j < n → (s - 2 ^ i).testBit j = true → s.testBit j = true := fun j hj hj2 => by
        rw [bit_rm s hs9 i (by omega) hb j (by omega)] at hj2
        simp at hj2
        exact hj2.1
      have hI := ih (s - 2 ^ i) (by omega) (by omega) k A (fun j hj hj2 => hA j hj (hin j hj hj2)) (fun c => by
        have h1 := tg_rm (g := ldI l A c) hn hs9 hi hb
        have h2 := hL c
        have h3 := hld A c i hi
        omega) (A i) hAi
      have h1 := tg_rm (g := ldI l A (A i)) hn hs9 hi hb
      have h2 : ldI l A (A i) i = nm l i := by unfold ldI; rw [if_pos rfl]
      have h3 := hL (A i)
      have h4 := tg_mono (g := ldI l A (A i)) (n := n) (s := s - 2 ^ i) (fun j hj => hld A (A i) j hj)
      have hbd := h.bd (s - 2 ^ i) (by omega)
      refine lxLe_trans ((h.spc s (by omega) hs).min i hi hb) (wth_mono ?_ (by omega) ⟨hbd.1, hbd.2.2.1⟩ hx.1 (by omega) h3)
      have e : tg (ldI l A (A i)) n s - nm l i = tg (ldI l A (A i)) n (s - 2 ^ i) := by omega
      rw [e]
      exact hI
    by_cases h0 : s = 0
    · subst h0
      rw [h.zero]
      left
      show (0 : Int) < (k : Int)
      omega
    obtain ⟨i0, hi0, hb0⟩ := some_bit (by omega) hs
    by_cases hne : ∃ i, i < n ∧ s.testBit i = true ∧ A i = b
    · obtain ⟨i, hi, hb, e⟩ := hne
      rw [← e]
      exact main k A hA hL i hi hb
    · have hA0 := hA i0 hi0 hb0
      have hAb : ∀ i, i < n → s.testBit i = true → A i ≠ b := fun i hi hb e => hne ⟨i, hi, hb, e⟩
      have hk2 : 2 ≤ k := by have := hAb i0 hi0 hb0; omega
      have hres : lxLe (F s) (((k - 1 : Nat) : Int), tg (ldI l (fun i => if A i = k - 1 then b else A i) (if A i0 = k - 1 then b else A i0)) n s) := by
        refine main (k - 1) (fun i => if A i = k - 1 then b else A i) (fun i hi hb => ?_) (fun c => ?_) i0 hi0 hb0
        · have h1 := hA i hi hb
          have h2 := hAb i hi hb
          show (if A i = k - 1 then b else A i) < k - 1
          split
          · omega
          · omega
        · by_cases hc : c = b
          · refine Int.le_trans (tg_le (h := ldI l A (k - 1)) fun j hj hj2 => ?_) (hL (k - 1))
            have h2 := hAb j hj hj2
            have h3 := hl j hj
            unfold ldI
            by_cases e1 : A j = k - 1
            · rw [if_pos e1]; split <;> omega
            · simp only [e1, if_false]
              rw [if_neg (by omega)]
              omega
          · refine Int.le_trans (tg_le (h := ldI l A c) fun j hj hj2 => ?_) (hL c)
            have h3 := hl j hj
            unfold ldI
            by_cases e1 : A j = k - 1
            · simp only [e1, if_true]
              rw [if_neg (by omega)]
              split <;> omega
            · simp only [e1, if_false]
              exact Int.le_refl _
      left
      unfold lxLe at hres
      show (F s).1 < (k : Int)
      simp only at hres
      omega
end Go.Proofs.Ytfnkboegbclnaaa
