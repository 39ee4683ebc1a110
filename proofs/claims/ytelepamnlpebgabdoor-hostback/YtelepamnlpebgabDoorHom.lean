/- Hosts: the mathematics; how they lie in memory. -/
import Derived.Test.YtelepamnlpebgabDoorAho
import Derived.Test.YtelepamnlpebgabDoorNdc
namespace Go.Proofs.YtelepamnlpebgabDoor
open Go.RowKit Go.Shelf Akm Ndm
set_option linter.unusedSectionVars false
set_option linter.unusedVariables false

/-- A host. -/
structure Ht where
  nm : ByteArray
  L : List (ByteArray × ByteArray)
  hs : N3
  us : N3
/-- One text is another. -/
def kqB (key lk : ByteArray) : Bool := lk.toList == key.toList
/-- What is wrong with labels, one by one, behind those that are looked at. -/
def clG : List (ByteArray × ByteArray) → List (ByteArray × ByteArray) → Int
  | _, [] => 0
  | pre, x :: r => if (!lbB x.1.data.toList || !lbB x.2.data.toList) = true then 3 else if (pre.any fun y => kqB x.1 y.1) = true then 6 else clG (pre ++ [x]) r
def lblE (L : List (ByteArray × ByteArray)) : Int := if 8 < L.length then 2 else clG [] L
/-- What is wrong with one host behind some. -/
def hoE (pre : List Ht) (h : Ht) : Int := if lbB h.nm.data.toList = false then 3 else if (pre.any fun y => kqB h.nm y.nm) = true then 6 else if lblE h.L ≠ 0 then lblE h.L else sE h.hs h.us
def hcG : List Ht → List Ht → Int
  | _, [] => 0
  | pre, h :: r => if hoE pre h ≠ 0 then hoE pre h else hcG (pre ++ [h]) r
/-- What Check answers. -/
def hcE (l : List Ht) : Int := if 30 < l.length then 2 else hcG [] l
theorem clG_at {L : List (ByteArray × ByteArray)} {j : Nat} {x : ByteArray × ByteArray} (hx : L[j]? = some x) : clG (L.take j) (L.drop j) = if (!lbB x.1.data.toList || !lbB x.2.data.toList) = true then 3 else if ((L.take j).any fun y => kqB x.1 y.1) = true then 6 else clG (L.take (j + 1)) (L.drop (j + 1)) := by
  have hj := (List.getElem?_eq_some_iff.1 hx).1
  have e := (List.getElem?_eq_some_iff.1 hx).2
  rw [List.drop_eq_getElem_cons hj, e, clG, List.take_succ_eq_append_getElem hj, e]
theorem hcG_at {l : List Ht} {j : Nat} {h : Ht} (hx : l[j]? = some h) : hcG (l.take j) (l.drop j) = if hoE (l.take j) h ≠ 0 then hoE (l.take j) h else hcG (l.take (j + 1)) (l.drop (j + 1)) := by
  have hj := (List.getElem?_eq_some_iff.1 hx).1
  have e := (List.getElem?_eq_some_iff.1 hx).2
  rw [List.drop_eq_getElem_cons hj, e, hcG, List.take_succ_eq_append_getElem hj, e]
theorem Lbs.take {w : World} {p : Option Addr} {L : List (ByteArray × ByteArray)} (h : Lbs w p L) (j : Nat) : Lbs w p (L.take j) := by
  rcases h with h | ⟨g, o, h1, h2, h3⟩
  · left; rw [h]; simp
  · refine Or.inr ⟨g, o, h1, h2, fun i x hx => ?_⟩
    rw [List.getElem?_take] at hx
    split at hx
    · exact h3 i x hx
    · cases hx
/-- The eight cells of a host in a row. -/
def cell8 (w : World) (g o : Nat) (h : Ht) (p : Option Addr) (c : Nat) : Prop := (w.cell? ⟨g, o, none⟩ = some (.string h.nm) ∧ w.cell? ⟨g, o + 1, none⟩ = some (.slice p h.L.length c)) ∧ (w.cell? ⟨g, o + 2, none⟩ = some (.int .i64 h.hs.x) ∧ w.cell? ⟨g, o + 3, none⟩ = some (.int .i64 h.hs.y) ∧ w.cell? ⟨g, o + 4, none⟩ = some (.int .i64 h.hs.z)) ∧ (w.cell? ⟨g, o + 5, none⟩ = some (.int .i64 h.us.x) ∧ w.cell? ⟨g, o + 6, none⟩ = some (.int .i64 h.us.y) ∧ w.cell? ⟨g, o + 7, none⟩ = some (.int .i64 h.us.z))
/-- Hosts as they lie in memory. -/
def Hsts (w : World) (p : Option Addr) (l : List Ht) : Prop := l = [] ∨ ∃ g o, p = some ⟨g, o, none⟩ ∧ g < w.heap.size ∧ ∀ j h, l[j]? = some h → ∃ pl cl, cell8 w g (o + j * 8) h pl cl ∧ Lbs w pl h.L ∧ ((h.L.length : Int) ≤ 9223372036854775807 ∧ h.L.length ≤ cl)
theorem cell8.below {w w' : World} {g o : Nat} {h : Ht} {p : Option Addr} {c : Nat} {B : Nat} (hh : cell8 w g o h p c) (hb : Below B w w') (hg : g < B) : cell8 w' g o h p c := by
  obtain ⟨⟨a0, a1⟩, ⟨b0, b1, b2⟩, ⟨c0, c1, c2⟩⟩ := hh
  have k : ∀ q v, w.cell? ⟨g, q, none⟩ = some v → w'.cell? ⟨g, q, none⟩ = some v := fun q v h => (hb.cell (p := ⟨g, q, none⟩) hg).trans h
  exact ⟨⟨k _ _ a0, k _ _ a1⟩, ⟨k _ _ b0, k _ _ b1, k _ _ b2⟩, ⟨k _ _ c0, k _ _ c1, k _ _ c2⟩⟩
theorem Hsts.below {w w' : World} {p : Option Addr} {l : List Ht} (h : Hsts w p l) (hb : Below w.heap.size w w') : Hsts w' p l := by
  refine h.imp id ?_
  rintro ⟨g, o, h1, h2, h3⟩
  refine ⟨g, o, h1, Nat.lt_of_lt_of_le h2 hb.size, fun j x hx => ?_⟩
  obtain ⟨pl, cl, e1, e2, e3⟩ := h3 j x hx
  exact ⟨pl, cl, e1.below hb h2, e2.below hb, e3⟩
theorem Hsts.take {w : World} {p : Option Addr} {l : List Ht} (h : Hsts w p l) (j : Nat) : Hsts w p (l.take j) := by
  rcases h with h | ⟨g, o, h1, h2, h3⟩
  · left; rw [h]; simp
  · refine Or.inr ⟨g, o, h1, h2, fun i x hx => ?_⟩
    rw [List.getElem?_take] at hx
    split at hx
    · exact h3 i x hx
    · cases hx
end Go.Proofs.YtelepamnlpebgabDoor
