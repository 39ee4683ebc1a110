/- Mathematics of the reference's search for the least span: each job on each hand, but on one only of those that have nothing. No program is named here. -/
import Derived.Test.YthfpdbogbmccjaaJrk
namespace Go.Proofs.Ythfpdbogbmccjaa
set_option linter.unusedSectionVars false
set_option linter.unusedVariables false

theorem sumF_first (E : Nat → Int) : ∀ n : Nat, sumF E (n + 1) = E 0 + sumF (fun i => E (i + 1)) n := by
  intro n
  induction n with
  | zero => simp [sumF]
  | succ n ih => rw [sumF, ih, sumF]; omega
def ldS (d : List Int) (f : Nat → Nat) (b : Nat) : Int := sumF (fun i => if f i = b then nm d i else 0) d.length
theorem ldS_cons (x : Int) (t : List Int) (f : Nat → Nat) (b : Nat) : ldS (x :: t) f b = (if f 0 = b then x else 0) + ldS t (fun i => f (i + 1)) b := by
  unfold ldS
  rw [List.length_cons, sumF_first]
  rfl
def WayG (m : Nat) (d : List Int) (W : Nat → Int) (v : Int) : Prop := ∃ f : Nat → Nat, (∀ i, i < d.length → f i < m) ∧ ∀ b, b < m → W b + ldS d f b ≤ v
def LoG (m : Nat) (d : List Int) (W : Nat → Int) (r : Int) : Prop := ∀ f : Nat → Nat, (∀ i, i < d.length → f i < m) → ∀ T, (∀ b, b < m → W b + ldS d f b ≤ T) → r ≤ T
/-- What the search tells. -/
structure Sho (m : Nat) (d : List Int) (W : Nat → Int) (best r : Int) : Prop where
  le : r ≤ best
  lo : LoG m d W r
  way : r = best ∨ WayG m d W r
theorem ldS_nonneg {d : List Int} (hd : ∀ x ∈ d, 0 ≤ x) (f : Nat → Nat) (b : Nat) : 0 ≤ ldS d f b := sumF_nonneg fun i hi => by
  show 0 ≤ if _ then nm d i else 0
  split
  · exact hd _ (nm_mem hi)
  · exact Int.le_refl _
theorem Sho.cut {m : Nat} {d : List Int} {W : Nat → Int} {best : Int} (hm : 1 ≤ m) (hd : ∀ x ∈ d, 0 ≤ x) (hW : ∀ b, b < m → 0 ≤ W b) (h : best ≤ mst W m) : Sho m d W best best := by
  refine ⟨Int.le_refl _, fun f hf T hT => Int.le_trans h (mst_le ?_ fun b hb => ?_), Or.inl rfl⟩
  · have h1 := hT 0 (by omega)
    have h2 := hW 0 (by omega)
    have h3 := ldS_nonneg hd f 0
    omega
  · have h1 := hT b hb
    have h3 := ldS_nonneg hd f b
    omega
theorem Sho.nil {m : Nat} {W : Nat → Int} {best : Int} (hm : 1 ≤ m) (hW : ∀ b, b < m → 0 ≤ W b) (h : ¬ best ≤ mst W m) : Sho m [] W best (mst W m) := by
  refine ⟨by omega, fun f hf T hT => mst_le ?_ fun b hb => ?_, Or.inr ⟨fun _ => 0, fun i hi => absurd hi (by simp), fun b hb => ?_⟩⟩
  · have h1 := hT 0 (by omega)
    have h2 := hW 0 (by omega)
    have h3 : ldS [] f 0 = 0 := rfl
    omega
  · have h1 := hT b hb
    have h3 : ldS [] f b = 0 := rfl
    omega
  · have h3 : ldS [] (fun _ => 0) b = 0 := rfl
    have := mst_ge W b hb
    omega
/-- What has come of the first k hands. -/
structure Shl (m : Nat) (d : List Int) (W : Nat → Int) (best : Int) (k : Nat) (r : Int) : Prop where
  le : r ≤ best
  lo : ∀ f : Nat → Nat, (∀ i, i < d.length → f i < m) → f 0 < k → ∀ T, (∀ b, b < m → W b + ldS d f b ≤ T) → r ≤ T
  way : r = best ∨ WayG m d W r
theorem Shl.start (m : Nat) (d : List Int) (W : Nat → Int) (best : Int) : Shl m d W best 0 best := ⟨Int.le_refl _, fun f _ h => absurd h (Nat.not_lt_zero _), Or.inl rfl⟩
theorem Shl.step {m : Nat} {x : Int} {t : List Int} {W : Nat → Int} {best : Int} {k : Nat} {r r' : Int} (h : Shl m (x :: t) W best k r) (hk : k < m) (hs : Sho m t (fp W k (W k + x)) r r') : Shl m (x :: t) W best (k + 1) r' := by
  have key : ∀ f : Nat → Nat, f 0 = k → ∀ b, fp W k (W k + x) b + ldS t (fun i => f (i + 1)) b = W b + ldS (x :: t) f b := fun f hf b => by
    rw [ldS_cons]
    by_cases e : b = k
    · subst e; rw [fp_same, if_pos hf]; omega
    · rw [fp_ne e, if_neg (fun z => e (by rw [← z, hf]))]; omega
  refine ⟨Int.le_trans hs.le h.le, fun f hf h0 T hT => ?_, ?_⟩
  · by_cases e : f 0 = k
    · refine hs.lo (fun i => f (i + 1)) (fun i hi => hf (i + 1) (by simp; omega)) T fun b hb => ?_
      rw [key f e b]
      exact hT b hb
    · exact Int.le_trans hs.le (h.lo f hf (by omega) T hT)
  · rcases hs.way with e | ⟨g, hg, hv⟩
    · rcases h.way with e2 | hw
      · exact Or.inl (by omega)
      · exact Or.inr (by rw [e]; exact hw)
    · refine Or.inr ⟨fun i => if i = 0 then k else g (i - 1), fun i hi => ?_, fun b hb => ?_⟩
      · show (if i = 0 then k else g (i - 1)) < m
        by_cases e : i = 0
        · rw [if_pos e]; exact hk
        · rw [if_neg e]; exact hg (i - 1) (by simp at hi; omega)
      · rw [← key (fun i => if i = 0 then k else g (i - 1)) rfl b]
        refine Int.le_trans (Int.le_of_eq ?_) (hv b hb)
        congr 1
def swp (a b x : Nat) : Nat := if x = a then b else if x = b then a else x
theorem swp_eq {a b x y : Nat} (h : a ≠ b) : swp a b x = y ↔ x = swp a b y := by
  unfold swp
  by_cases h1 : x = a <;> by_cases h2 : x = b <;> by_cases h3 : y = a <;> by_cases h4 : y = b <;> simp_all <;> omega
theorem Shl.skip {m : Nat} {d : List Int} {W : Nat → Int} {best : Int} {k k0 : Nat} {r : Int} (h : Shl m d W best k r) (hk : k < m) (hk0 : k0 < k) (h1 : W k = 0) (h2 : W k0 = 0) : Shl m d W best (k + 1) r := by
  refine ⟨h.le, fun f hf h0 T hT => ?_, h.way⟩
  by_cases e : f 0 = k
  · have hne : k ≠ k0 := by omega
    refine h.lo (fun i => swp k k0 (f i)) (fun i hi => ?_) ?_ T fun b hb => ?_
    · show swp k k0 (f i) < m
      have := hf i hi
      unfold swp
      split
      · omega
      · split <;> omega
    · show swp k k0 (f 0) < k
      unfold swp
      rw [if_pos e]; exact hk0
    · have e1 : ldS d (fun i => swp k k0 (f i)) b = ldS d f (swp k k0 b) := sumF_congr fun i _ => by
        show (if swp k k0 (f i) = b then nm d i else 0) = if f i = swp k k0 b then nm d i else 0
        by_cases c : swp k k0 (f i) = b
        · rw [if_pos c, if_pos ((swp_eq hne).1 c)]
        · rw [if_neg c, if_neg (fun z => c ((swp_eq hne).2 z))]
      have e2 : W b = W (swp k k0 b) := by
        unfold swp
        by_cases c1 : b = k
        · rw [if_pos c1, c1, h1, h2]
        · rw [if_neg c1]
          by_cases c2 : b = k0
          · rw [if_pos c2, c2, h1, h2]
          · rw [if_neg c2]
      rw [e1, e2]
      refine hT _ ?_
      unfold swp
      split
      · omega
      · split <;> omega
  · exact h.lo f hf (by omega) T hT
theorem Shl.done {m : Nat} {x : Int} {t : List Int} {W : Nat → Int} {best : Int} {r : Int} (h : Shl m (x :: t) W best m r) : Sho m (x :: t) W best r :=
  ⟨h.le, fun f hf T hT => h.lo f hf (hf 0 (by simp)) T hT, h.way⟩
/-- The search's number is the least. -/
theorem sho_bst {l : List Int} {m : Nat} {v r : Int} (hb : Bst l m (2 ^ l.length - 1) v) (hs : Sho m l (fun _ => 0) 1152921504606846976 r) : r = v := by
  have hld : ∀ f b, ldF l f (2 ^ l.length - 1) b = ldS l f b := fun f b => sumF_congr fun i hi => by simp only [full_bit hi, true_and]
  obtain ⟨f, hf, hv⟩ := hb.way
  have h1 : r ≤ v := hs.lo f hf v fun b hbm => by have := hv b hbm; rw [hld] at this; simpa using this
  rcases hs.way with e | ⟨g, hg, hw⟩
  · have := hb.b; omega
  · have h2 : v ≤ r := hb.lo g hg r fun b hbm => by rw [hld]; have := hw b hbm; simpa using this
    omega
end Go.Proofs.Ythfpdbogbmccjaa
