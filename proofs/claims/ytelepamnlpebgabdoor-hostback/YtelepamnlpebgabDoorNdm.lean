/- The plain mathematics of needs: three numbers, what fits, what is added. No program is named here. -/
import Derived.ProofKit
namespace Go.Proofs.YtelepamnlpebgabDoor.Ndm
open Go

/-- A need. -/
structure N3 where
  x : Int
  y : Int
  z : Int

def mx : Int := 1099511627776
def nz : N3 := ⟨0, 0, 0⟩
def okN (a : N3) : Bool := decide ((0 ≤ a.x ∧ a.x ≤ 1099511627776) ∧ (0 ≤ a.y ∧ a.y ≤ 1099511627776) ∧ (0 ≤ a.z ∧ a.z ≤ 1099511627776))
def ftN (a b : N3) : Bool := decide (a.x ≤ b.x ∧ a.y ≤ b.y ∧ a.z ≤ b.z)
def addN (a b : N3) : N3 := ⟨a.x + b.x, a.y + b.y, a.z + b.z⟩
def subN (a b : N3) : N3 := ⟨a.x - b.x, a.y - b.y, a.z - b.z⟩
def top : N3 := ⟨1099511627776, 1099511627776, 1099511627776⟩
theorem okN_iff {a : N3} : okN a = true ↔ (0 ≤ a.x ∧ a.x ≤ 1099511627776) ∧ (0 ≤ a.y ∧ a.y ≤ 1099511627776) ∧ (0 ≤ a.z ∧ a.z ≤ 1099511627776) := by simp [okN]
theorem ftN_iff {a b : N3} : ftN a b = true ↔ a.x ≤ b.x ∧ a.y ≤ b.y ∧ a.z ≤ b.z := by simp [ftN]
theorem okN_ft (a : N3) : okN a = (ftN nz a && ftN a top) := by
  rw [Bool.eq_iff_iff, Bool.and_eq_true, okN_iff, ftN_iff, ftN_iff]
  show _ ↔ ((0 : Int) ≤ a.x ∧ (0 : Int) ≤ a.y ∧ (0 : Int) ≤ a.z) ∧ (a.x ≤ 1099511627776 ∧ a.y ≤ 1099511627776 ∧ a.z ≤ 1099511627776)
  exact ⟨fun ⟨⟨h1, h2⟩, ⟨h3, h4⟩, h5, h6⟩ => ⟨⟨h1, h3, h5⟩, h2, h4, h6⟩, fun ⟨⟨h1, h3, h5⟩, h2, h4, h6⟩ => ⟨⟨h1, h2⟩, ⟨h3, h4⟩, h5, h6⟩⟩
theorem N3.ext' {a b : N3} (h1 : a.x = b.x) (h2 : a.y = b.y) (h3 : a.z = b.z) : a = b := by
  cases a; cases b; simp_all
theorem okN_nz : okN nz = true := by decide
def nE (l : List N3) (k : Nat) : N3 := l.getD k nz
theorem nE_get {l : List N3} {k : Nat} (hk : k < l.length) : nE l k = l[k] := by simp [nE, hk]
theorem nE_mem {l : List N3} {k : Nat} (hk : k < l.length) : nE l k ∈ l := by rw [nE_get hk]; exact List.getElem_mem hk
theorem take_nE {l : List N3} {j : Nat} (hj : j < l.length) : l.take (j + 1) = l.take j ++ [nE l j] := by
  rw [nE_get hj, List.take_append_getElem]
/-- All of them are needs. -/
def okL (l : List N3) : Bool := l.all okN
theorem okL_take {l : List N3} {j : Nat} (hj : j < l.length) (h : okL (l.take j) = true) (h2 : okN (nE l j) = true) : okL (l.take (j + 1)) = true := by
  unfold okL at *
  rw [take_nE hj, List.all_append, h]
  simp [h2]
theorem okL_no {l : List N3} {j : Nat} (hj : j < l.length) (h2 : okN (nE l j) = false) : okL l = false := by
  unfold okL
  rw [List.all_eq_false]
  exact ⟨_, nE_mem hj, by simp [h2]⟩
theorem okL_mem {l : List N3} (h : okL l = true) {k : Nat} (hk : k < l.length) : okN (nE l k) = true := List.all_eq_true.1 h _ (nE_mem hk)
theorem okL_one (a : N3) : okL [a] = okN a := by simp [okL]
theorem okL_two (a b : N3) : okL [a, b] = (okN a && okN b) := by simp [okL]
/-- What the row of sums comes to: none, where one would be too much. -/
def smL : List N3 → N3 → Option N3
  | [], s => some s
  | a :: l, s => if okN (addN s a) then smL l (addN s a) else none
theorem smL_append (l r : List N3) : ∀ s, smL (l ++ r) s = (smL l s).bind (smL r) := by
  induction l with
  | nil => intro s; rfl
  | cons a l ih => intro s; simp only [List.cons_append, smL]; split
                   · rw [ih]
                   · rfl
theorem smL_ok : ∀ (l : List N3) (s t : N3), okN s = true → smL l s = some t → okN t = true
  | [], s, t, h, e => by simp only [smL, Option.some.injEq] at e; rw [← e]; exact h
  | a :: l, s, t, h, e => by
    simp only [smL] at e
    split at e
    · rename_i h2; exact smL_ok l _ t h2 e
    · cases e
theorem smL_step {l : List N3} {j : Nat} {s : N3} (hj : j < l.length) (h : smL (l.take j) nz = some s) : smL (l.take (j + 1)) nz = if okN (addN s (nE l j)) then some (addN s (nE l j)) else none := by
  rw [take_nE hj, smL_append, h]
  show smL [nE l j] s = _
  simp only [smL]
theorem smL_no {l : List N3} {j : Nat} (h : smL (l.take j) nz = none) : smL l nz = none := by
  rw [← List.take_append_drop j l, smL_append, h]
  rfl
end Go.Proofs.YtelepamnlpebgabDoor.Ndm
