/- The plain mathematics of cutting a text into pieces byte by byte. No program is named here. -/
import Derived.Test.YthebcdadoinflaaDoorPrn
namespace Go.Proofs.YthebcdadoinflaaDoor.Crn
open Cal Txt

theorem sp_snoc_eq (c : UInt8) : ∀ l : List UInt8, sp c (l ++ [c]) = sp c l ++ [[]]
  | [] => by simp [sp]
  | x :: l => by
    obtain ⟨h, t, e⟩ := sp_ne c l
    rw [List.cons_append, sp, sp_snoc_eq c l, sp]
    rw [e]
    by_cases hx : x = c
    · rw [if_pos hx, if_pos hx]; rfl
    · rw [if_neg hx, if_neg hx]; rfl
theorem sp_snoc_ne {c x : UInt8} (hx : x ≠ c) : ∀ {l : List UInt8} {ini : List (List UInt8)} {lst : List UInt8}, sp c l = ini ++ [lst] → sp c (l ++ [x]) = ini ++ [lst ++ [x]]
  | [], ini, lst, h => by
    have h' : ini ++ [lst] = [[]] := h.symm
    cases ini with
    | nil =>
      simp at h'
      subst h'
      simp [sp, hx]
    | cons a r => simp at h'
  | y :: l, ini, lst, h => by
    rw [List.cons_append, sp]
    rw [sp] at h
    by_cases hy : y = c
    · rw [if_pos hy] at h ⊢
      cases ini with
      | nil =>
        obtain ⟨a, t, e⟩ := sp_ne c l
        rw [e] at h
        simp at h
      | cons a r =>
        rw [List.cons_append] at h
        obtain ⟨rfl, h2⟩ := List.cons.inj h
        rw [sp_snoc_ne hx h2]
        rfl
    · rw [if_neg hy] at h ⊢
      obtain ⟨a, t, e⟩ := sp_ne c l
      rw [e] at h
      cases ini with
      | nil =>
        simp at h
        obtain ⟨h1, h2⟩ := h
        have e2 : sp c l = [] ++ [a] := by rw [e, h2]; rfl
        rw [sp_snoc_ne hx e2, ← h1]
        simp
      | cons b r =>
        rw [List.cons_append] at h
        obtain ⟨h1, h2⟩ := List.cons.inj h
        have e2 : sp c l = (a :: r) ++ [lst] := by rw [e]; exact congrArg (List.cons a) h2
        rw [sp_snoc_ne hx e2, ← h1]
        rfl
theorem sp_last (c : UInt8) (l : List UInt8) : ∃ ini lst, sp c l = ini ++ [lst] := by
  obtain ⟨h, t, e⟩ := sp_ne c l
  refine ⟨(sp c l).dropLast, (sp c l).getLast (by rw [e]; simp), ?_⟩
  rw [List.dropLast_concat_getLast]
end Go.Proofs.YthebcdadoinflaaDoor.Crn
