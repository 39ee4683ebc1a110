/- What the reference's functions on sets of numbers and on times answer: contracts, each proved by a walk over its own text. -/
import Derived.Test.YthebcdadoinflaaDoorChk
import Derived.Test.YthebcdadoinflaaDoorNxt
import Derived.Test.YthebcdadoinflaaDoorRef
import Derived.Test.YthebcdadoinflaaDoorRmb
namespace Go.Proofs.YthebcdadoinflaaDoor
open Go.RowKit Cal Crn

theorem rem_two (s n : Nat) : ((s : Int) / 2 ^ n % 2 == 1) = s.testBit n := by
  rw [div_cast, Nat.testBit_eq_decide_div_mod_eq]
  generalize s / 2 ^ n = q
  rcases (show q % 2 = 0 ∨ q % 2 = 1 by omega) with e | e
  · rw [e, show (q : Int) % 2 = 0 by omega]; rfl
  · rw [e, show (q : Int) % 2 = 1 by omega]; rfl

set_option maxHeartbeats 400000 in
theorem In_nat (s n : Nat) (w : World) (_hs : s < 18446744073709551616) (hn : n < 64) :
    Calls Tryd.prog 21 #[.int .u64 s, .int .i64 n] w fun e w' => e = .returned (.bool (s.testBit n)) ∧ w' = w := by
  go_enter Tryd.func21, Tryd.ntmps21
  go_wp2
  go_ret
  exact ⟨ret_bool (rem_two s n), rfl⟩
theorem In_yes (s : Nat) (n : Int) (w : World) (hs : s < 18446744073709551616) (h0 : 0 ≤ n) (hn : n < 64) :
    Calls Tryd.prog 21 #[.int .u64 s, .int .i64 n] w fun e w' => e = .returned (.bool (hasB s n)) ∧ w' = w := by
  have h := In_nat s n.toNat w hs (by omega)
  rw [show ((n.toNat : Nat) : Int) = n by omega] at h
  exact h

set_option maxHeartbeats 400000 in
theorem FullSet_yes (s : Nat) (lo hi : Int) (w : World) (hs : s < 18446744073709551616) (h0 : 0 ≤ lo) (h1 : hi < 64) (h2 : lo ≤ hi + 1) (hf : Full s lo hi) :
    Calls Tryd.prog 22 #[.int .u64 s, .int .i64 lo, .int .i64 hi] w fun e w' => e = .returned (.bool true) ∧ w' = w := by
  go_enter Tryd.func22, Tryd.ntmps22
  go_wp2
  go_loop [7] (fun i => ∃ n : Int, i = .int .i64 n ∧ lo ≤ n ∧ n ≤ hi + 1) (fun i => (65 - intOf i).toNat)
  case atStart => exact ⟨lo, rfl, by omega, by omega⟩
  case round =>
    obtain ⟨n, rfl, g1, g2⟩ := hrel
    by_cases hn : n ≤ hi
    · have hb := hf n g1 hn
      go_wp2_with (go_at_call 21; refine (In_yes _ _ _ (by omega) (by omega) (by omega)).mono ?_; rintro e w' ⟨rfl, rfl⟩)
      go_round
      case rel => exact ⟨n + 1, by go_num, by omega, by omega⟩
      case measure => simp [intOf]; omega
    · go_wp2
      go_ret
      exact ⟨rfl, rfl⟩

set_option maxHeartbeats 400000 in
theorem FullSet_no (s : Nat) (lo hi : Int) (w : World) (hs : s < 18446744073709551616) (h0 : 0 ≤ lo) (h1 : hi < 64) (h2 : lo ≤ hi + 1) (hf : ¬ Full s lo hi) :
    Calls Tryd.prog 22 #[.int .u64 s, .int .i64 lo, .int .i64 hi] w fun e w' => e = .returned (.bool false) ∧ w' = w := by
  go_enter Tryd.func22, Tryd.ntmps22
  go_wp2
  go_loop [7] (fun i => ∃ n : Int, i = .int .i64 n ∧ lo ≤ n ∧ n ≤ hi + 1 ∧ Hid (∀ u, lo ≤ u → u < n → hasB s u = true)) (fun i => (65 - intOf i).toNat)
  case atStart => exact ⟨lo, rfl, by omega, by omega, fun u a b => by omega⟩
  case round =>
    obtain ⟨n, rfl, g1, g2, g3⟩ := hrel
    by_cases hn : n ≤ hi
    · by_cases hb : hasB s n = true
      · go_wp2_with (go_at_call 21; refine (In_yes _ _ _ (by omega) (by omega) (by omega)).mono ?_; rintro e w' ⟨rfl, rfl⟩)
        go_round
        case rel =>
          refine ⟨n + 1, by go_num, by omega, by omega, fun u a b => ?_⟩
          rcases (show u < n ∨ u = n by omega) with l | l
          · exact g3.out u a l
          · rw [l]; exact hb
        case measure => simp [intOf]; omega
      · have hb' : hasB s n = false := by simpa using hb
        clear hb
        go_wp2_with (go_at_call 21; refine (In_yes _ _ _ (by omega) (by omega) (by omega)).mono ?_; rintro e w' ⟨rfl, rfl⟩)
        go_ret
        exact ⟨rfl, rfl⟩
    · exact (hf fun u a b => g3.out u a (by omega)).elim

end Go.Proofs.YthebcdadoinflaaDoor
