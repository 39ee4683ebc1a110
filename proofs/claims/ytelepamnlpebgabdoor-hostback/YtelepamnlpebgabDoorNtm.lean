/- The plain mathematics of the texts of needs. No program is named here. -/
import Derived.Test.YtelepamnlpebgabDoorNdm
import Derived.Lib.ItoaNum
import Derived.Lib.Join
import Derived.Lib.ItoaLen
namespace Go.Proofs.YtelepamnlpebgabDoor.Ndm
open Go

def nmB : Nat → List UInt8
  | 0 => [99, 112, 117]
  | 1 => [109, 101, 109]
  | _ => [103, 112, 117]
/-- One kind's word in a text. -/
def itN (i : Nat) (n : Int) : List UInt8 := nmB i ++ ([61] ++ Lib.itoa n)
def it1 (i : Nat) (n : Int) : List (List UInt8) := if n = 0 then [] else [itN i n]
/-- The words of the first kinds. -/
def itL (a : N3) : Nat → List (List UInt8)
  | 0 => []
  | 1 => it1 0 a.x
  | 2 => it1 0 a.x ++ it1 1 a.y
  | _ => it1 0 a.x ++ it1 1 a.y ++ it1 2 a.z
def txN (a : N3) : List UInt8 := if itL a 3 = [] then [45] else Lib.join (itL a 3) [44]
theorem it1_zero {i : Nat} {n : Int} (h : n = 0) : it1 i n = [] := if_pos h
theorem it1_some {i : Nat} {n : Int} (h : n ≠ 0) : it1 i n = [itN i n] := if_neg h
theorem it1_len (i : Nat) (n : Int) : (it1 i n).length ≤ 1 := by unfold it1; split <;> simp
theorem itN_len {i : Nat} {n : Int} (h0 : 0 ≤ n) (h1 : n ≤ 1099511627776) : (itN i n).length ≤ 25 := by
  have := Lib.itoa_length_le n (by omega) (by omega)
  have e : (nmB i).length = 3 := by unfold nmB; split <;> rfl
  simp [itN, e]
  omega
theorem itL_len (a : N3) (k : Nat) : (itL a k).length ≤ 3 := by
  have h1 := it1_len 0 a.x
  have h2 := it1_len 1 a.y
  have h3 := it1_len 2 a.z
  unfold itL
  split <;> simp <;> omega
theorem join_len {a : N3} (h : okN a = true) : (Lib.join (itL a 3) [44]).length ≤ 1000 := by
  obtain ⟨⟨x1, x2⟩, ⟨y1, y2⟩, z1, z2⟩ := okN_iff.1 h
  have l1 := itN_len (i := 0) x1 x2
  have l2 := itN_len (i := 1) y1 y2
  have l3 := itN_len (i := 2) z1 z2
  show (Lib.join (it1 0 a.x ++ it1 1 a.y ++ it1 2 a.z) [44]).length ≤ 1000
  unfold it1
  split <;> split <;> split <;> simp [Lib.join, List.intercalate, List.intersperse] <;> omega
end Go.Proofs.YtelepamnlpebgabDoor.Ndm
