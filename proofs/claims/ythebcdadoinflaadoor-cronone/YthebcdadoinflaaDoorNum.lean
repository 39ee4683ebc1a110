/- What package numeral's Digits answers of texts of at most four bytes: a contract, proved by a walk over its own text. -/
import Derived.Test.YthebcdadoinflaaDoorCiv
import Derived.Test.YthebcdadoinflaaDoorTxt
namespace Go.Proofs.YthebcdadoinflaaDoor
open Go.RowKit Cal Txt

theorem take_snoc (s : ByteArray) (k : Nat) (h : k < s.size) : s.data.toList.take (k + 1) = s.data.toList.take k ++ [s[k]] := by
  rw [List.take_succ_eq_append_getElem (by simpa using h)]; rfl
theorem take_all (s : ByteArray) : s.data.toList.take s.size = s.data.toList := List.take_of_length_le (by simp)

set_option maxHeartbeats 400000 in
theorem number_any (s : ByteArray) (w : World) (hp : 1 ≤ s.size) (hs : s.size ≤ 4) (r : Option Int) (HR : Hid (nrd s.data.toList 0 = r)) :
    Calls Tryd.prog 77 #[.string s] w fun e w' => e = .returned (.tuple #[.int .i64 (r.getD 0), .bool r.isSome]) ∧ w' = w := by
  have hne : s.toList.isEmpty = false := by
    rw [ByteArray.toList_eq]
    cases hl : s.data.toList with
    | nil =>
      have h0 : s.data.toList.length = s.size := by simp
      rw [hl] at h0
      simp at h0
      omega
    | cons _ _ => rfl
  go_enter Tryd.func77, Tryd.ntmps77
  go_wp2
  go_loop [4, 5] (fun n i => ∃ (k : Nat) (a : Int), k ≤ s.size ∧ i = .int .i64 k ∧ n = .int .i64 a ∧ Hid (nrd (s.data.toList.take k) 0 = some a) ∧ 0 ≤ a ∧ a ≤ 9999) (fun _ i => s.size - (intOf i).toNat)
  case atStart => exact ⟨0, 0, Nat.zero_le _, rfl, rfl, rfl, by omega, by omega⟩
  case round =>
    obtain ⟨k, a, hk, rfl, rfl, HA, h0, h9⟩ := hrel
    by_cases hlt : k < s.size
    · have HS : Hid (nrd (s.data.toList.take (k + 1)) 0 = if 48 ≤ (s[k].toNat : Int) ∧ (s[k].toNat : Int) ≤ 57 then some (a * 10 + ((s[k].toNat : Int) - 48)) else none) := by
        rw [take_snoc s k hlt]; exact nrd_snoc HA.out
      rcases (show ((s[k].toNat : Int) < 48 ∨ 48 ≤ (s[k].toNat : Int) ∧ 57 < (s[k].toNat : Int)) ∨ 48 ≤ (s[k].toNat : Int) ∧ (s[k].toNat : Int) ≤ 57 by omega) with hbad | hgood
      · have hr : r = none := by
          have hq := HS.out
          rw [if_neg (by omega)] at hq
          have := nrd_prefix_none (s.data.toList.drop (k + 1)) hq
          rw [List.take_append_drop] at this
          rw [← HR.out, this]
        subst hr
        clear HR HS HA
        rcases hbad with hbad | ⟨hbad, hbad'⟩
        all_goals
          go_wp2
          go_ret2
          exact ⟨rfl, rfl⟩
      · have hq := HS.out
        rw [if_pos hgood] at hq
        have hbd := nrd_bd _ 0 _ 4 (by simp; omega) (by omega) hq
        have HQ : Hid (nrd (s.data.toList.take (k + 1)) 0 = some (a * 10 + ((s[k].toNat : Int) - 48))) := hq
        have hup : a * 10 + ((s[k].toNat : Int) - 48) ≤ 9999 := by have := hbd.2; omega
        clear hq HS hbd
        obtain ⟨g1, g2⟩ := hgood
        go_wp2
        go_round
        case rel => exact ⟨k + 1, a * 10 + ((s[k].toNat : Int) - 48), by omega, by go_num, rfl, HQ, by omega, hup⟩
        case measure => simp [intOf]; omega
    · have hr : r = some a := by
        have hq := HA.out
        rw [show k = s.size by omega, take_all] at hq
        rw [← HR.out, hq]
      subst hr
      clear HR HA
      go_wp2
      go_ret2
      exact ⟨rfl, rfl⟩

set_option maxHeartbeats 400000 in
theorem number_nil (w : World) :
    Calls Tryd.prog 77 #[.string ⟨#[]⟩] w fun e w' => e = .returned (.tuple #[.int .i64 0, .bool false]) ∧ w' = w := by
  go_enter Tryd.func77, Tryd.ntmps77
  go_wp2
  go_loop [4, 5] (fun n i => i = .int .i64 0 ∧ n = .int .i64 0) (fun _ _ => 0)
  case atStart => exact ⟨rfl, rfl⟩
  case round =>
    obtain ⟨rfl, rfl⟩ := hrel
    go_wp2
    go_ret2
    exact ⟨rfl, rfl⟩
end Go.Proofs.YthebcdadoinflaaDoor
