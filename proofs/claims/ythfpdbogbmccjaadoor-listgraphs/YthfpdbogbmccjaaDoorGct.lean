/- How many are led to, and the edges of links. -/
import Derived.Test.YthfpdbogbmccjaaDoorGtm
import Derived.Test.YthfpdbogbmccjaaDoorGpc
namespace Go.Proofs.YthfpdbogbmccjaaDoor
open Go.RowKit Gm
set_option linter.unusedSectionVars false

/-- How many the first m things lead to. -/
def nE (r : Nat → Nat → Bool) : Nat → Nat
  | 0 => 0
  | m + 1 => nE r m + (bl (r m) 60).length
/-- The edges of the first m things. -/
def eL (r : Nat → Nat → Bool) : Nat → List Ed
  | 0 => []
  | m + 1 => eL r m ++ (bl (r m) 60).map fun (j : Nat) => (⟨(m : Int), (j : Int)⟩ : Ed)
theorem eL_len (r : Nat → Nat → Bool) (m : Nat) : (eL r m).length = nE r m := by
  induction m with
  | zero => rfl
  | succ m ih => rw [eL, List.length_append, ih, List.length_map, nE]
theorem nE_le (r : Nat → Nat → Bool) (m : Nat) : nE r m ≤ 60 * m := by
  induction m with
  | zero => exact Nat.le_refl _
  | succ m ih => have := bl_len (r m) 60; rw [nE]; omega
theorem mem_eL {r : Nat → Nat → Bool} {m : Nat} {e : Ed} : e ∈ eL r m ↔ ∃ i j : Nat, i < m ∧ j < 60 ∧ r i j = true ∧ e = ⟨(i : Int), (j : Int)⟩ := by
  induction m with
  | zero => simp [eL]
  | succ m ih =>
    rw [eL, List.mem_append, ih, List.mem_map]
    constructor
    · rintro (⟨i, j, h1, h2, h3, h4⟩ | ⟨j, hj, rfl⟩)
      · exact ⟨i, j, by omega, h2, h3, h4⟩
      · have := mem_bl.1 hj
        exact ⟨m, j, by omega, this.1, this.2, rfl⟩
    · rintro ⟨i, j, h1, h2, h3, rfl⟩
      by_cases e : i = m
      · subst e; exact Or.inr ⟨j, mem_bl.2 ⟨h2, h3⟩, rfl⟩
      · exact Or.inl ⟨i, j, by omega, h2, h3, rfl⟩
theorem sum_i {a b : Nat} (ha : a ≤ 4000) (hb : b ≤ 60) : Value.int .i64 (wrap64 ((a : Int) + (b : Int))) = .int .i64 ((a + b : Nat) : Int) := by
  congr 1
  unfold wrap64; omega

theorem owns_base' {w : World} {B B' : Nat} {e : TypeId} {k : Nat} {v : Value} {n : Nat} {xs : List Value} (h : w.ownsRow B e k v n xs) (hB : B' ≤ B) : w.ownsRow B' e k v n xs :=
  ⟨h.1, h.2.imp id fun ⟨g, cap, cur, hv, hb, r⟩ => ⟨g, cap, cur, hv, Nat.le_trans hB hb, r⟩⟩
theorem flatE_app (a b : List Ed) : flatE (a ++ b) = flatE a ++ flatE b := by simp [flatE]
theorem take_map_succ {L : List Nat} {k i : Nat} (hk : k < L.length) : (L.take (k + 1)).map (fun (j : Nat) => (⟨(i : Int), (j : Int)⟩ : Ed)) = (L.take k).map (fun (j : Nat) => (⟨(i : Int), (j : Int)⟩ : Ed)) ++ [⟨(i : Int), ((bn L k : Nat) : Int)⟩] := by
  rw [← List.take_append_getElem hk, List.map_append, bn_get hk]; rfl

end Go.Proofs.YthfpdbogbmccjaaDoor
