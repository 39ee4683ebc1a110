/- The plain mathematics of asks: trees, what is wrong with one ask alone, those in it, one by one. No program is named here. -/
import Derived.ProofKit
namespace Go.Proofs.YtelepamnlpebgabDoor.Akm
open Go

/-- An ask. -/
inductive Tr where
  | mk (k : Int) (key val : ByteArray) (n : Int) (xs : List Tr) : Tr
def Tr.k : Tr → Int
  | .mk k _ _ _ _ => k
def Tr.key : Tr → ByteArray
  | .mk _ s _ _ _ => s
def Tr.val : Tr → ByteArray
  | .mk _ _ s _ _ => s
def Tr.n : Tr → Int
  | .mk _ _ _ n _ => n
def Tr.xs : Tr → List Tr
  | .mk _ _ _ _ l => l
/-- How many asks there are in X of a kind. -/
def inK (k : Int) : Int := if k = 5 ∨ k = 6 then 2 else if k = 4 then 1 else 0
def knK (k : Int) : Bool := decide (1 ≤ k ∧ k ≤ 6)
/-- Something is there that the kind does not have. -/
def hoB (k : Int) (key val : ByteArray) (n : Int) (m : Nat) : Bool := (decide (m ≠ 0) && !key.toList.isEmpty) || (decide (k ≠ 2) && !val.toList.isEmpty) || (decide (k ≠ 3) && decide (n ≠ 0))
mutual
/-- How many asks there are in one. -/
def szT : Tr → Nat
  | .mk _ _ _ _ xs => szL xs + 1
def szL : List Tr → Nat
  | [] => 0
  | x :: r => szT x + szL r
end
mutual
/-- All asks in one, itself first. -/
def allT : Tr → List Tr
  | .mk k a b n xs => .mk k a b n xs :: allL xs
def allL : List Tr → List Tr
  | [] => []
  | x :: r => allT x ++ allL r
end
mutual
theorem allT_len : ∀ t, (allT t).length = szT t
  | .mk k a b n xs => by
    rw [allT, szT, List.length_cons, allL_len xs]
theorem allL_len : ∀ l, (allL l).length = szL l
  | [] => rfl
  | x :: r => by rw [allL, szL, List.length_append, allT_len x, allL_len r]
end
theorem allL_append : ∀ (l r : List Tr), allL (l ++ r) = allL l ++ allL r
  | [], r => rfl
  | x :: l, r => by rw [List.cons_append, allL, allL_append l r, allL, List.append_assoc]
theorem szL_append : ∀ (l r : List Tr), szL (l ++ r) = szL l + szL r
  | [], r => by rw [List.nil_append, szL]; omega
  | x :: l, r => by rw [List.cons_append, szL, szL_append l r, szL]; omega
theorem allL_take {xs : List Tr} {j : Nat} {x : Tr} (h : xs[j]? = some x) : allL (xs.take (j + 1)) = allL (xs.take j) ++ allT x := by
  have hj := (List.getElem?_eq_some_iff.1 h).1
  rw [List.take_succ_eq_append_getElem hj, allL_append, allL, allL, List.append_nil, (List.getElem?_eq_some_iff.1 h).2]
theorem szL_take {xs : List Tr} {j : Nat} {x : Tr} (h : xs[j]? = some x) : szL (xs.take j) + szT x ≤ szL xs := by
  have hj := (List.getElem?_eq_some_iff.1 h).1
  have e := congrArg szL (List.take_append_drop (j + 1) xs)
  rw [szL_append, List.take_succ_eq_append_getElem hj, szL_append, szL, szL, (List.getElem?_eq_some_iff.1 h).2] at e
  omega
theorem allL_split {xs : List Tr} {j : Nat} {x : Tr} (h : xs[j]? = some x) : allL xs = allL (xs.take j) ++ (allT x ++ allL (xs.drop (j + 1))) := by
  have e := congrArg allL (List.take_append_drop (j + 1) xs)
  rw [allL_append, allL_take h, List.append_assoc] at e
  exact e.symm
theorem szL_pos : ∀ t, 1 ≤ szT t
  | .mk _ _ _ _ _ => by rw [szT]; omega
end Go.Proofs.YtelepamnlpebgabDoor.Akm
