/- Mathematics of first fit, thing by thing: which box each is in; what Boxes tells of it. -/
import Derived.Test.YtfnkboegbclnaaaKbx
namespace Go.Proofs.Ytfnkboegbclnaaa
open Go.RowKit
set_option linter.unusedSectionVars false
set_option linter.unusedVariables false

/-- What lies in a box, of some things. -/
def sb (l : List Int) (I : Nat → Int) (b : Int) : List Nat → Int
  | [] => 0
  | i :: r => (if I i = b then nm l i else 0) + sb l I b r
theorem sb_app (l : List Int) (I : Nat → Int) (b : Int) (P Q : List Nat) : sb l I b (P ++ Q) = sb l I b P + sb l I b Q := by
  induction P with
  | nil => simp [sb]
  | cons i r ih => simp only [List.cons_append, sb, ih]; omega
theorem sb_congr {l : List Int} {I J : Nat → Int} {b : Int} {P : List Nat} (h : ∀ i ∈ P, I i = J i) : sb l I b P = sb l J b P := by
  induction P with
  | nil => rfl
  | cons i r ih =>
    simp only [sb]
    rw [h i (List.mem_cons_self ..), ih fun j hj => h j (List.mem_cons_of_mem _ hj)]
theorem sb_none {l : List Int} {I : Nat → Int} {b : Int} {P : List Nat} (h : ∀ i ∈ P, I i ≠ b) : sb l I b P = 0 := by
  induction P with
  | nil => rfl
  | cons i r ih =>
    simp only [sb]
    rw [if_neg (h i (List.mem_cons_self ..)), ih fun j hj => h j (List.mem_cons_of_mem _ hj)]
    omega
theorem sb_perm {l : List Int} {I : Nat → Int} {b : Int} {P Q : List Nat} (h : P.Perm Q) : sb l I b P = sb l I b Q := by
  induction h with
  | nil => rfl
  | cons x _ ih => simp only [sb, ih]
  | swap x y l' => simp only [sb]; omega
  | trans _ _ h1 h2 => exact h1.trans h2
/-- Where each thing is. -/
structure Inb (l : List Int) (size : Int) (P : List Nat) (s : Fs) : Prop where
  lt : ∀ i ∈ P, ∃ b : Nat, s.inn i = (b : Int) ∧ b < s.m
  sum : ∀ b : Nat, b < s.m → sb l s.inn (b : Int) P = size - s.rm b
  ne : ∀ b : Nat, b < s.m → ∃ i ∈ P, s.inn i = (b : Int)
theorem Inb.step {l : List Int} {size : Int} {P : List Nat} {s : Fs} {i : Nat} (h : Inb l size P s) (hi : i ∉ P) : Inb l size (P ++ [i]) (fst l size s i) := by
  have hold : ∀ (v : Int), ∀ j ∈ P, fp s.inn i v j = s.inn j := fun v j hj => fp_ne (fun e => hi (by rw [← e]; exact hj))
  unfold fst
  cases e : ((List.range s.m).map s.rm).findIdx? (fun r => decide (nm l i ≤ r)) with
  | some b =>
    obtain ⟨hj, h1, _⟩ := List.findIdx?_eq_some_iff_getElem.1 e
    have hb : b < s.m := by simpa using hj
    refine ⟨fun j hj => ?_, fun c hc => ?_, fun c hc => ?_⟩
    · show ∃ c : Nat, fp s.inn i (b : Int) j = (c : Int) ∧ c < s.m
      rcases List.mem_append.1 hj with hj | hj
      · rw [hold _ j hj]; exact h.lt j hj
      · rw [List.mem_singleton.1 hj, fp_same]; exact ⟨b, rfl, hb⟩
    · show sb l (fp s.inn i (b : Int)) (c : Int) (P ++ [i]) = size - fp s.rm b (s.rm b - nm l i) c
      rw [sb_app, sb_congr (hold _), h.sum c hc]
      simp only [sb, fp_same]
      by_cases ec : c = b
      · rw [ec, if_pos rfl, fp_same]; omega
      · rw [if_neg (by omega), fp_ne ec]; omega
    · show ∃ j ∈ P ++ [i], fp s.inn i (b : Int) j = (c : Int)
      obtain ⟨j, hj, ej⟩ := h.ne c hc
      exact ⟨j, List.mem_append_left _ hj, by rw [hold _ j hj]; exact ej⟩
  | none =>
    refine ⟨fun j hj => ?_, fun c hc => ?_, fun c hc => ?_⟩
    · show ∃ c : Nat, fp s.inn i (s.m : Int) j = (c : Int) ∧ c < s.m + 1
      rcases List.mem_append.1 hj with hj | hj
      · rw [hold _ j hj]
        obtain ⟨c, e1, e2⟩ := h.lt j hj
        exact ⟨c, e1, by omega⟩
      · rw [List.mem_singleton.1 hj, fp_same]; exact ⟨s.m, rfl, Nat.lt_succ_self _⟩
    · show sb l (fp s.inn i (s.m : Int)) (c : Int) (P ++ [i]) = size - fp (fp s.rm s.m size) s.m (size - nm l i) c
      have hc' : c < s.m + 1 := hc
      rw [sb_app, sb_congr (hold _)]
      simp only [sb, fp_same]
      by_cases ec : c = s.m
      · rw [ec, if_pos rfl, fp_same, sb_none fun j hj => ?_]
        · omega
        · obtain ⟨d, e1, e2⟩ := h.lt j hj
          rw [e1]; omega
      · rw [if_neg (by omega), fp_ne ec, fp_ne ec, h.sum c (by omega)]; omega
    · show ∃ j ∈ P ++ [i], fp s.inn i (s.m : Int) j = (c : Int)
      have hc' : c < s.m + 1 := hc
      by_cases ec : c = s.m
      · exact ⟨i, by simp, by rw [fp_same, ec]⟩
      · obtain ⟨j, hj, ej⟩ := h.ne c (by omega)
        exact ⟨j, List.mem_append_left _ hj, by rw [hold _ j hj]; exact ej⟩
theorem fold_inb {l : List Int} {size : Int} : ∀ (R P : List Nat) (s : Fs), (P ++ R).Nodup → Inb l size P s → Inb l size (P ++ R) (R.foldl (fst l size) s) := by
  intro R
  induction R with
  | nil => intro P s _ h; simpa using h
  | cons i R ih =>
    intro P s hn h
    have e : P ++ i :: R = (P ++ [i]) ++ R := by simp
    have hi : i ∉ P := fun hm => by
      rw [List.nodup_append] at hn
      exact hn.2.2 i hm i (List.mem_cons_self ..) rfl
    rw [e] at hn ⊢
    exact ih (P ++ [i]) (fst l size s i) hn (h.step hi)
theorem inb_all {l : List Int} {size : Int} {R : List Nat} (hR : Perm0 l.length R) : Inb l size (List.range l.length) (fsA l size R) := by
  have hn : R.Nodup := hR.perm.nodup_iff.2 List.nodup_range
  have h := fold_inb (l := l) (size := size) R [] ⟨0, fun _ => 0, fun _ => 0⟩ (by simpa using hn) ⟨fun i hi => by simp at hi, fun b hb => absurd hb (Nat.not_lt_zero _), fun b hb => absurd hb (Nat.not_lt_zero _)⟩
  rw [List.nil_append] at h
  refine ⟨fun i hi => h.lt i (hR.perm.mem_iff.2 hi), fun b hb => ?_, fun b hb => ?_⟩
  · rw [← sb_perm hR.perm]; exact h.sum b hb
  · obtain ⟨i, hi, e⟩ := h.ne b hb
    exact ⟨i, hR.perm.mem_iff.1 hi, e⟩
theorem nm_row {I : Nat → Int} {n j : Nat} (h : j < n) : nm ((List.range n).map I) j = I j := by simp [nm, h]
theorem bxS_sb {l : List Int} {I : Nat → Int} {n : Nat} : ∀ j, j ≤ n → ∀ b, bxS l ((List.range n).map I) j b = sb l I b (List.range j) := by
  intro j
  induction j with
  | zero => intro _ b; rfl
  | succ j ih =>
    intro hj b
    rw [bxS, nm_row (show j < n by omega), List.range_succ, sb_app]
    simp only [sb]
    by_cases e : b = I j
    · rw [if_pos e, ← e, if_pos rfl, ih (by omega)]; omega
    · rw [if_neg e, if_neg (fun x => e x.symm), ih (by omega)]; omega
theorem sb_mono {l : List Int} {I : Nat → Int} {b : Int} {n : Nat} (hl : ∀ i, i < n → 0 ≤ nm l i) : ∀ j, j ≤ n → sb l I b (List.range j) ≤ sb l I b (List.range n) := by
  intro j hj
  induction n with
  | zero => have : j = 0 := by omega
            rw [this]; exact Int.le_refl _
  | succ n ih =>
    by_cases e : j = n + 1
    · rw [e]; exact Int.le_refl _
    · have h1 := ih (fun i hi => hl i (by omega)) (by omega)
      have h2 := hl n (by omega)
      rw [List.range_succ, sb_app]
      simp only [sb]
      split <;> omega
theorem bxK_spec (B : List Int) : ∀ j, (bxK B j).Nodup ∧ ∀ x, x ∈ bxK B j ↔ ∃ i, i < j ∧ nm B i = x := by
  intro j
  induction j with
  | zero => exact ⟨List.nodup_nil, fun x => ⟨fun h => by simp [bxK] at h, fun ⟨i, hi, _⟩ => absurd hi (Nat.not_lt_zero _)⟩⟩
  | succ j ih =>
    rw [bxK]
    by_cases e : nm B j ∈ bxK B j
    · rw [if_pos e]
      refine ⟨ih.1, fun x => ?_⟩
      rw [ih.2]
      constructor
      · rintro ⟨i, hi, e2⟩; exact ⟨i, by omega, e2⟩
      · rintro ⟨i, hi, e2⟩
        by_cases e3 : i = j
        · rw [← ih.2, ← e2, e3]; exact e
        · exact ⟨i, by omega, e2⟩
    · rw [if_neg e]
      refine ⟨?_, fun x => ?_⟩
      · rw [List.nodup_append]
        exact ⟨ih.1, by simp, fun a ha b hb => by rw [List.mem_singleton.1 hb]; exact fun e2 => e (by rw [← e2]; exact ha)⟩
      · rw [List.mem_append, ih.2, List.mem_singleton]
        constructor
        · rintro (⟨i, hi, e2⟩ | e2)
          · exact ⟨i, by omega, e2⟩
          · exact ⟨j, by omega, e2.symm⟩
        · rintro ⟨i, hi, e2⟩
          by_cases e3 : i = j
          · right; rw [← e2, e3]
          · left; exact ⟨i, by omega, e2⟩
/-- PackFits' first half: what first fit says is what Boxes says. -/
theorem fits_boxes {l : List Int} {size : Int} (hk : kc l size = 0) {R : List Nat} (hR : Perm0 l.length R) : bxR l ((List.range l.length).map (fsA l size R).inn) size = (((fsA l size R).m : Int), 0) := by
  obtain ⟨k1, k2, k3, k4⟩ := kc_ok hk
  have hI := inb_all (size := size) hR
  have hF := fit_all k4 hR
  generalize hs : fsA l size R = s at *
  have hnn : ∀ i, i < l.length → 0 ≤ nm l i := fun i hi => by have := k4 _ (nm_mem hi); omega
  have hO : ∀ j, j ≤ l.length → bxO l ((List.range l.length).map s.inn) size j = true := by
    intro j
    induction j with
    | zero => intro _; rfl
    | succ j ih =>
      intro hj
      rw [bxO, ih (by omega), nm_row (show j < l.length by omega), Bool.true_and, Bool.and_eq_true]
      obtain ⟨b, e1, e2⟩ := hI.lt j (List.mem_range.2 (by omega))
      refine ⟨decide_eq_true (by rw [e1]; omega), decide_eq_true ?_⟩
      rw [bxS_sb (j + 1) hj, e1]
      have h1 := sb_mono (I := s.inn) (b := (b : Int)) hnn (j + 1) hj
      rw [hI.sum b e2] at h1
      have := hF.lo b e2
      omega
  unfold bxR
  rw [if_neg (by omega), if_neg (by simp), if_pos (hO _ (Nat.le_refl _))]
  obtain ⟨n1, n2⟩ := bxK_spec ((List.range l.length).map s.inn) l.length
  have hp : (bxK ((List.range l.length).map s.inn) l.length).Perm ((List.range s.m).map fun (b : Nat) => (b : Int)) := by
    rw [List.perm_ext_iff_of_nodup n1 (List.Pairwise.map (fun (b : Nat) => (b : Int)) (R := (· ≠ ·)) (fun a b hab e => hab (by omega)) List.nodup_range)]
    intro x
    rw [n2, List.mem_map]
    constructor
    · rintro ⟨i, hi, rfl⟩
      rw [nm_row hi]
      obtain ⟨b, e1, e2⟩ := hI.lt i (List.mem_range.2 hi)
      exact ⟨b, List.mem_range.2 e2, e1.symm⟩
    · rintro ⟨b, hb, rfl⟩
      obtain ⟨i, hi, e⟩ := hI.ne b (List.mem_range.1 hb)
      exact ⟨i, List.mem_range.1 hi, by rw [nm_row (List.mem_range.1 hi)]; exact e⟩
  rw [hp.length_eq]
  simp
end Go.Proofs.Ytfnkboegbclnaaa
