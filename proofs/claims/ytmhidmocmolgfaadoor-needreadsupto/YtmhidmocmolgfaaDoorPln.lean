/- What package numeral's Plain answers of any text. -/
import Derived.Test.YtmhidmocmolgfaaDoorDgs
namespace Go.Proofs.YtmhidmocmolgfaaDoor
open Go.RowKit Txt
set_option linter.unusedSectionVars false
set_option linter.unusedVariables false

theorem digs_nil (w : World) : Calls Tryd.prog 100 #[.string ⟨#[]⟩] w fun e w' => e = .returned (.tuple #[.int .i64 0, .bool false]) ∧ w' = w := by
  go_enter Tryd.func100, Tryd.ntmps100
  go_wp2
  go_loop [4, 5] (fun n i => i = .int .i64 0 ∧ n = .int .i64 0) (fun _ _ => 0)
  case atStart => exact ⟨rfl, rfl⟩
  case round =>
    obtain ⟨rfl, rfl⟩ := hrel
    go_wp2
    go_ret2
    exact ⟨rfl, rfl⟩
/-- The number that a text tells in the one way, if it is below 2^63. -/
def pl64 (l : List UInt8) : Option Int := if 1 < l.length ∧ l.getD 0 0 = 48 then none else rd64 l

set_option maxHeartbeats 1000000 in
theorem plain_any (s : ByteArray) (w : World) (hs : s.size ≤ maxLen) :
    Calls Tryd.prog 70 #[.string s] w fun e w' => e = .returned (.tuple #[.int .i64 ((pl64 s.data.toList).getD 0), .bool (pl64 s.data.toList).isSome]) ∧ w' = w := by
  have hlen : Hid (s.data.toList.length = s.size) := by show _ = _; simp
  by_cases h0 : s.size = 0
  · obtain ⟨⟨l⟩⟩ := s
    obtain rfl : l = [] := by simpa [ByteArray.size] using h0
    have hd := digs_nil w
    clear hs hlen h0
    go_enter Tryd.func70, Tryd.ntmps70
    go_wp2_with (first | (go_at_call 100; refine hd.mono ?_; rintro e w' ⟨rfl, rfl⟩; clear hd) | go_in)
    go_ret2
    exact ⟨rfl, rfl⟩
  · have hd := digs_any s w (by omega) hs (rd64 s.data.toList) rfl
    unfold maxLen at hs
    by_cases h1 : 1 < s.size
    · have hg : s.data.toList.getD 0 0 = s[0] := by
        rw [List.getD_eq_getElem?_getD, List.getElem?_eq_getElem (by have := hlen.out; omega)]
        rfl
      by_cases h2 : s[0] = 48
      · have e : pl64 s.data.toList = none := if_pos ⟨by have := hlen.out; omega, by rw [hg]; exact h2⟩
        have hz : (s[0].toNat : Int) = 48 := by rw [h2]; rfl
        have hz2 : ((s[0].toNat : Int) == 48) = true := by rw [hz]; rfl
        rw [e]
        clear hd hg hlen e h2
        go_enter Tryd.func70, Tryd.ntmps70
        go_wp2
        go_ret2
        exact ⟨rfl, rfl⟩
      · have e : pl64 s.data.toList = rd64 s.data.toList := if_neg (fun h => h2 (by rw [← hg]; exact h.2))
        have hz2 : ((s[0].toNat : Int) == 48) = false := by
          have h3 : s[0].toNat ≠ 48 := fun h => h2 (UInt8.toNat_inj.1 h)
          simp
          omega
        rw [e]
        generalize rd64 s.data.toList = r at *
        clear hg hlen e h2
        go_enter Tryd.func70, Tryd.ntmps70
        go_wp2_with (first | (go_at_call 100; refine hd.mono ?_; rintro e w' ⟨rfl, rfl⟩; clear hd) | go_in)
        go_ret2
        exact ⟨rfl, rfl⟩
    · have e : pl64 s.data.toList = rd64 s.data.toList := if_neg (fun h => h1 (by have := hlen.out; omega))
      rw [e]
      generalize rd64 s.data.toList = r at *
      clear hlen e
      go_enter Tryd.func70, Tryd.ntmps70
      go_wp2_with (first | (go_at_call 100; refine hd.mono ?_; rintro e w' ⟨rfl, rfl⟩; clear hd) | go_in)
      go_ret2
      exact ⟨rfl, rfl⟩
end Go.Proofs.YtmhidmocmolgfaaDoor
