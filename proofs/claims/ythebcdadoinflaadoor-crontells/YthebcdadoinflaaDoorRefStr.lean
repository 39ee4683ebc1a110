/- What the document's own answer on months farther and on texts (package shiftbellref) comes to. -/
import Derived.Test.YthebcdadoinflaaDoorRef
import Derived.Test.YthebcdadoinflaaDoorTxt
namespace Go.Proofs.YthebcdadoinflaaDoor
open Go.RowKit Cal Txt

def dlast (u : Nat) : Nat → List UInt8
  | 0 => []
  | k + 1 => dgt (u / 10 ^ k) :: dlast u k
theorem dlast_length (u : Nat) : ∀ k, (dlast u k).length = k
  | 0 => rfl
  | k + 1 => by simp [dlast, dlast_length u k]
theorem digit_cut {r : Nat} (h : r < 10) : (ByteArray.mk #[48, 49, 50, 51, 52, 53, 54, 55, 56, 57]).extract r (r + 1) = ByteArray.mk [dgt r].toArray := by
  rcases (show r = 0 ∨ r = 1 ∨ r = 2 ∨ r = 3 ∨ r = 4 ∨ r = 5 ∨ r = 6 ∨ r = 7 ∨ r = 8 ∨ r = 9 by omega) with e | e | e | e | e | e | e | e | e | e <;> subst e <;> decide

theorem digit_join {v : Nat} {l r : List UInt8} (h : r = dgt v :: l) : Value.string ((ByteArray.mk #[48, 49, 50, 51, 52, 53, 54, 55, 56, 57]).extract (v % 10) (v % 10 + 1) ++ ByteArray.mk l.toArray) = Value.string ⟨r.toArray⟩ := by
  rw [digit_cut (Nat.mod_lt _ (by decide)), ByteArray.mk_append_mk, h]
  have e : dgt (v % 10) = dgt v := by unfold dgt; rw [Nat.mod_mod]
  rw [e]
  rfl
def strLen (v : Value) : Nat := match v with
  | .string b => b.size
  | _ => 0
theorem strLen_join (v : Nat) (l : List UInt8) : strLen (Value.string ((ByteArray.mk #[48, 49, 50, 51, 52, 53, 54, 55, 56, 57]).extract (v % 10) (v % 10 + 1) ++ ByteArray.mk l.toArray)) = l.length + 1 := by
  rw [digit_join (r := dgt v :: l) rfl]; rfl

set_option maxHeartbeats 400000 in
theorem Digits_any (u L : Nat) (hu : u < 10 ^ L) (hL : L ≤ 4) (w : World) :
    Calls Tryd.prog 23 #[.int .i64 u, .int .i64 L] w fun e w' => e = .returned (.string ⟨(dlast u L).toArray⟩) ∧ w' = w := by
  have h4 : u < 10000 := Nat.lt_of_lt_of_le hu (Nat.pow_le_pow_right (by decide) hL)
  have HU : Hid (u < 10 ^ L) := hu
  clear hu
  go_enter Tryd.func23, Tryd.ntmps23
  go_wp2
  go_loop [0, 5] (fun n s => ∃ k v : Nat, k ≤ L ∧ v < 10000 ∧ Hid (v = u / 10 ^ k) ∧ n = .int .i64 v ∧ s = .string ⟨(dlast u k).toArray⟩) (fun _ s => L - strLen s)
  case atStart => exact ⟨0, u, by omega, h4, by show u = u / 10 ^ 0; simp, rfl, rfl⟩
  case round =>
    obtain ⟨k, v, hk, hv, HV, rfl, rfl⟩ := hrel
    have hl := dlast_length u k
    by_cases hlt : k < L
    · have HD : Hid (dlast u (k + 1) = dgt v :: dlast u k) := show _ = _ by rw [HV.out]; rfl
      have HN : Hid (v / 10 = u / 10 ^ (k + 1)) := show _ = _ by rw [HV.out, Nat.div_div_eq_div_mul, Nat.pow_succ]
      generalize dlast u k = l at *
      have hl1 : l.length ≤ k := by omega
      have hl2 : k ≤ l.length := by omega
      clear hl
      rcases Nat.eq_zero_or_pos v with e0 | hp
      · subst e0
        go_wp2
        refine ⟨⟨k + 1, 0, by omega, by omega, HN, rfl, digit_join (v := 0) HD.out⟩, ?_⟩
        have e1 := strLen_join 0 l
        have e2 : strLen (Value.string ⟨l.toArray⟩) = l.length := rfl
        simp only [Nat.zero_mod, Nat.zero_add] at e1
        rw [e1, e2]
        omega
      · go_wp2
        refine ⟨⟨k + 1, v / 10, by omega, by omega, HN, by go_num, digit_join HD.out⟩, ?_⟩
        have e2 : strLen (Value.string ⟨l.toArray⟩) = l.length := rfl
        rw [strLen_join, e2]
        omega
    · have ek : k = L := by omega
      subst ek
      have ev : v = 0 := by rw [HV.out]; exact Nat.div_eq_of_lt HU.out
      subst ev
      have hl2 : k ≤ (dlast u k).length := by omega
      clear hl
      go_wp2
      go_ret
      exact ⟨rfl, rfl⟩

theorem dlast2 (u : Nat) : dlast u 2 = d2 u := by simp [dlast, d2]
theorem dlast4 (u : Nat) : dlast u 4 = d4 u := by simp [dlast, d4]
theorem Digits2 (a : Int) (w : World) (h0 : 0 ≤ a) (h1 : a < 100) :
    Calls Tryd.prog 23 #[.int .i64 a, .int .i64 2] w fun e w' => e = .returned (.string ⟨(d2 a.toNat).toArray⟩) ∧ w' = w := by
  obtain ⟨u, rfl⟩ := Int.eq_ofNat_of_zero_le h0
  have := Digits_any u 2 (by omega) (by omega) w
  rw [dlast2] at this
  exact this
theorem Digits4 (a : Int) (w : World) (h0 : 0 ≤ a) (h1 : a < 10000) :
    Calls Tryd.prog 23 #[.int .i64 a, .int .i64 4] w fun e w' => e = .returned (.string ⟨(d4 a.toNat).toArray⟩) ∧ w' = w := by
  obtain ⟨u, rfl⟩ := Int.eq_ofNat_of_zero_le h0
  have := Digits_any u 4 (by omega) (by omega) w
  rw [dlast4] at this
  exact this

theorem ret_strj {k : IntKind} {n : Int} {a b : ByteArray} (h : a = b) : Ending.returned (.tuple #[.string a, .int k n]) = .returned (.tuple #[.string b, .int k n]) := by rw [h]
theorem joined5 (x y z : List UInt8) : (ByteArray.mk x.toArray ++ ByteArray.mk #[45] ++ ByteArray.mk y.toArray ++ ByteArray.mk #[45] ++ ByteArray.mk z.toArray) = ByteArray.mk (x ++ 45 :: (y ++ 45 :: z)).toArray := by
  rw [show (#[45] : Array UInt8) = [45].toArray from rfl, ByteArray.mk_append_mk, ByteArray.mk_append_mk, ByteArray.mk_append_mk, ByteArray.mk_append_mk]
  simp

end Go.Proofs.YthebcdadoinflaaDoor
