/- What package numeral's Digits answers of any text: a contract, proved by a walk over its own text (numbers below 2^63). -/
import Derived.Test.YtmhidmocmolgfaaDoorChecked
import Derived.Test.YtmhidmocmolgfaaDoorTxt
import Derived.ProofKit
import Derived.WalkKit
namespace Go.Proofs.YtmhidmocmolgfaaDoor
open Go.RowKit Txt
set_option linter.unusedSectionVars false
set_option linter.unusedVariables false

theorem nrd_mono : ∀ (l : List UInt8) (a b : Int), 0 ≤ a → nrd l a = some b → a ≤ b
  | [], a, b, _, h => by simp only [nrd, Option.some.injEq] at h; omega
  | c :: l, a, b, h0, h => by
    simp only [nrd] at h
    split at h
    · have := nrd_mono l _ b (by omega) h
      omega
    · cases h
/-- The number that a text tells, if it is below 2^63. -/
def rd64 (l : List UInt8) : Option Int := if l = [] then none else (nrd l 0).bind fun v => if v ≤ 9223372036854775807 then some v else none
theorem rd64_big {l : List UInt8} {k : Nat} {a : Int} (h : nrd (l.take k) 0 = some a) (hb : 9223372036854775807 < a) : rd64 l = none := by
  unfold rd64
  split
  · rfl
  · cases hn : nrd l 0 with
    | none => rfl
    | some v =>
      have h2 : nrd (l.take k ++ l.drop k) 0 = some v := by rw [List.take_append_drop]; exact hn
      rw [nrd_append, h] at h2
      have := nrd_mono (l.drop k) a v (by omega) h2
      show (if v ≤ 9223372036854775807 then some v else none) = none
      rw [if_neg (by omega)]
theorem rd64_bad {l : List UInt8} {k : Nat} (h : nrd (l.take k) 0 = none) : rd64 l = none := by
  unfold rd64
  split
  · rfl
  · have := nrd_prefix_none (l.drop k) h
    rw [List.take_append_drop] at this
    rw [this]
    rfl
theorem rd64_ok {l : List UInt8} {a : Int} (h : nrd l 0 = some a) (hb : a ≤ 9223372036854775807) (hne : l ≠ []) : rd64 l = some a := by
  unfold rd64
  rw [if_neg hne, h]
  exact if_pos hb
theorem take_snocD (s : ByteArray) (k : Nat) (h : k < s.size) : s.data.toList.take (k + 1) = s.data.toList.take k ++ [s[k]] := by
  rw [List.take_succ_eq_append_getElem (by simpa using h)]; rfl
theorem take_allD (s : ByteArray) : s.data.toList.take s.size = s.data.toList := List.take_of_length_le (by simp)

set_option maxHeartbeats 1000000 in
theorem digs_any (s : ByteArray) (w : World) (hp : 1 ≤ s.size) (hs : s.size ≤ maxLen) (r : Option Int) (HR : Hid (rd64 s.data.toList = r)) :
    Calls Tryd.prog 100 #[.string s] w fun e w' => e = .returned (.tuple #[.int .i64 (r.getD 0), .bool r.isSome]) ∧ w' = w := by
  unfold maxLen at hs
  have hlen : s.data.toList.length = s.size := by simp
  have hnil : Hid (s.data.toList ≠ []) := fun h => by rw [h] at hlen; simp at hlen; omega
  have hne : s.toList.isEmpty = false := by
    rw [ByteArray.toList_eq]
    cases hl : s.data.toList with
    | nil => rw [hl] at hlen; simp at hlen; omega
    | cons _ _ => rfl
  clear hlen
  go_enter Tryd.func100, Tryd.ntmps100
  go_wp2
  go_loop [4, 5] (fun n i => ∃ (k : Nat) (a : Int), k ≤ s.size ∧ i = .int .i64 k ∧ n = .int .i64 a ∧ Hid (nrd (s.data.toList.take k) 0 = some a) ∧ 0 ≤ a ∧ a ≤ 9223372036854775807) (fun _ i => s.size - (intOf i).toNat)
  case atStart => exact ⟨0, 0, Nat.zero_le _, rfl, rfl, rfl, by omega, by omega⟩
  case round =>
    obtain ⟨k, a, hk, rfl, rfl, HA, h0, h9⟩ := hrel
    by_cases hlt : k < s.size
    · have HS : Hid (nrd (s.data.toList.take (k + 1)) 0 = if 48 ≤ (s[k].toNat : Int) ∧ (s[k].toNat : Int) ≤ 57 then some (a * 10 + ((s[k].toNat : Int) - 48)) else none) := by
        rw [take_snocD s k hlt]; exact nrd_snoc HA.out
      rcases (show ((s[k].toNat : Int) < 48 ∨ 48 ≤ (s[k].toNat : Int) ∧ 57 < (s[k].toNat : Int)) ∨ 48 ≤ (s[k].toNat : Int) ∧ (s[k].toNat : Int) ≤ 57 by omega) with hbad | hgood
      · have hr : r = none := by
          have hq := HS.out
          rw [if_neg (by omega)] at hq
          rw [← HR.out, rd64_bad hq]
        subst hr
        clear HR HS HA
        rcases hbad with hbad | ⟨hbad, hbad'⟩
        all_goals
          go_wp2
          go_ret2
          exact ⟨rfl, rfl⟩
      · have hq := HS.out
        rw [if_pos hgood] at hq
        have HQ : Hid (nrd (s.data.toList.take (k + 1)) 0 = some (a * 10 + ((s[k].toNat : Int) - 48))) := hq
        clear hq HS
        obtain ⟨g1, g2⟩ := hgood
        by_cases hov : (9223372036854775807 - ((s[k].toNat : Int) - 48)) / 10 < a
        · have hr : r = none := by
            rw [← HR.out, rd64_big HQ.out (by omega)]
          subst hr
          clear HR HA HQ
          go_wp2
          go_ret2
          exact ⟨rfl, rfl⟩
        · have hup : a * 10 + ((s[k].toNat : Int) - 48) ≤ 9223372036854775807 := by omega
          go_wp2
          go_round
          case rel => exact ⟨k + 1, a * 10 + ((s[k].toNat : Int) - 48), by omega, by go_num, rfl, HQ, by omega, hup⟩
          case measure => simp [intOf]; omega
    · have hr : r = some a := by
        have hq := HA.out
        rw [show k = s.size by omega, take_allD] at hq
        rw [← HR.out, rd64_ok hq h9 hnil.out]
      subst hr
      clear HR HA
      go_wp2
      go_ret2
      exact ⟨rfl, rfl⟩
end Go.Proofs.YtmhidmocmolgfaaDoor
