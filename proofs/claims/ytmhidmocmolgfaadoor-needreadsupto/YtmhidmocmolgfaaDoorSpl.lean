/- The plain mathematics of cutting a text into pieces at a byte. No program is named here. -/
import Derived.Lib.Join
import Derived.Lib.IndexBytes
namespace Go.Proofs.YtmhidmocmolgfaaDoor.Spl
open Go

/-- The pieces of a text between a byte. -/
def sp (c : UInt8) : List UInt8 → List (List UInt8)
  | [] => [[]]
  | x :: l => if x = c then [] :: sp c l else (x :: (sp c l).headD []) :: (sp c l).tail
theorem sp_ne (c : UInt8) (l : List UInt8) : ∃ h t, sp c l = h :: t := by
  cases l with
  | nil => exact ⟨[], [], rfl⟩
  | cons x l =>
    unfold sp
    split
    · exact ⟨_, _, rfl⟩
    · exact ⟨_, _, rfl⟩
theorem sp_app {c : UInt8} : ∀ {a b : List UInt8}, c ∉ a → sp c (a ++ c :: b) = a :: sp c b
  | [], b, _ => by simp [sp]
  | x :: a, b, h => by
    have hx : x ≠ c := fun e => h (by simp [e])
    have ha : c ∉ a := fun e => h (by simp [e])
    rw [List.cons_append, sp, if_neg hx, sp_app ha]
    rfl
theorem sp_none {c : UInt8} : ∀ {a : List UInt8}, c ∉ a → sp c a = [a]
  | [], _ => rfl
  | x :: a, h => by
    have hx : x ≠ c := fun e => h (by simp [e])
    have ha : c ∉ a := fun e => h (by simp [e])
    rw [sp, if_neg hx, sp_none ha]
    rfl
theorem sp_len (c : UInt8) : ∀ (l x : List UInt8), x ∈ sp c l → x.length ≤ l.length
  | [], x, h => by simp [sp] at h; simp [h]
  | y :: l, x, h => by
    obtain ⟨a, t, e⟩ := sp_ne c l
    have ih := sp_len c l
    unfold sp at h
    rw [e] at h ih
    split at h
    · rcases List.mem_cons.1 h with h | h
      · simp [h]
      · have := ih x h; simp; omega
    · rcases List.mem_cons.1 h with h | h
      · have := ih a (by simp)
        rw [h]
        simp
        omega
      · have := ih x (by simp at h; simp [h])
        simp
        omega
theorem sp_count (c : UInt8) : ∀ l : List UInt8, (sp c l).length ≤ l.length + 1
  | [] => by simp [sp]
  | y :: l => by
    have ih := sp_count c l
    obtain ⟨a, t, e⟩ := sp_ne c l
    unfold sp
    rw [e] at ih ⊢
    split
    · simp at *; omega
    · simp at *; omega
theorem sp_snoc_eq (c : UInt8) : ∀ l : List UInt8, sp c (l ++ [c]) = sp c l ++ [[]]
  | [] => by simp [sp]
  | x :: l => by
    obtain ⟨h, t, e⟩ := sp_ne c l
    rw [List.cons_append, sp, sp_snoc_eq c l, sp]
    rw [e]
    by_cases hx : x = c
    · rw [if_pos hx, if_pos hx]; rfl
    · rw [if_neg hx, if_neg hx]; rfl
theorem sp_snoc_ne {c x : UInt8} (hx : x ≠ c) : ∀ {l : List UInt8} {ini : List (List UInt8)} {lst : List UInt8}, sp c l = ini ++ [lst] → sp c (l ++ [x]) = ini ++ [lst ++ [x]]
  | [], ini, lst, h => by
    have h' : ini ++ [lst] = [[]] := h.symm
    cases ini with
    | nil =>
      simp at h'
      subst h'
      simp [sp, hx]
    | cons a r => simp at h'
  | y :: l, ini, lst, h => by
    rw [List.cons_append, sp]
    rw [sp] at h
    by_cases hy : y = c
    · rw [if_pos hy] at h ⊢
      cases ini with
      | nil =>
        obtain ⟨a, t, e⟩ := sp_ne c l
        rw [e] at h
        simp at h
      | cons a r =>
        rw [List.cons_append] at h
        obtain ⟨rfl, h2⟩ := List.cons.inj h
        rw [sp_snoc_ne hx h2]
        rfl
    · rw [if_neg hy] at h ⊢
      obtain ⟨a, t, e⟩ := sp_ne c l
      rw [e] at h
      cases ini with
      | nil =>
        simp at h
        obtain ⟨h1, h2⟩ := h
        have e2 : sp c l = [] ++ [a] := by rw [e, h2]; rfl
        rw [sp_snoc_ne hx e2, ← h1]
        simp
      | cons b r =>
        rw [List.cons_append] at h
        obtain ⟨h1, h2⟩ := List.cons.inj h
        have e2 : sp c l = (a :: r) ++ [lst] := by rw [e]; exact congrArg (List.cons a) h2
        rw [sp_snoc_ne hx e2, ← h1]
        rfl
theorem sp_last (c : UInt8) (l : List UInt8) : ∃ ini lst, sp c l = ini ++ [lst] := by
  obtain ⟨h, t, e⟩ := sp_ne c l
  refine ⟨(sp c l).dropLast, (sp c l).getLast (by rw [e]; simp), ?_⟩
  rw [List.dropLast_concat_getLast]
theorem sp_join {c : UInt8} : ∀ {xs : List (List UInt8)}, xs ≠ [] → (∀ x ∈ xs, c ∉ x) → sp c (Lib.join xs [c]) = xs
  | [], h, _ => absurd rfl h
  | [x], _, h => by rw [Lib.join_one, sp_none (h x (by simp))]
  | x :: y :: r, _, h => by
    have e : Lib.join (x :: y :: r) [c] = x ++ c :: Lib.join (y :: r) [c] := by
      rw [Lib.join_cons, Lib.join_cons]
      simp [Lib.joinTail]
    rw [e, sp_app (h x (by simp)), sp_join (by simp) (fun z hz => h z (by simp at hz ⊢; right; exact hz))]
end Go.Proofs.YtmhidmocmolgfaaDoor.Spl
