/- 'good' answers false where one of the errors that are handed in is not nought. -/
import Derived.Test.YtbcfdleijpicgaaDoorGood
namespace Go.Proofs.YtbcfdleijpicgaaDoor
open Go.RowKit

set_option maxHeartbeats 400000 in
theorem indexBad_some (b n j : Nat) (v : Int) (w : World) (hj : j < n) (hz : Hid (∀ k : Nat, k < j → w.cell? ⟨b, k, none⟩ = some (.int .i64 0))) (HV : Hid (w.cell? ⟨b, j, none⟩ = some (.int .i64 v))) (hv : (v != 0) = true) (hn : n ≤ 10) :
    Calls Tryd.prog 64 #[.slice (some ⟨b, 0, none⟩) n n, .func (Fn.func 38) #[] #[]] w fun e w' => e = .returned (.int .i64 j) ∧ w' = w := by
  go_enter Tryd.func64, Tryd.ntmps64
  go_wp2
  go_loop [8] (fun i => ∃ k : Nat, k ≤ j ∧ i = .int .i64 k) (fun i => n - (intOf i).toNat)
  case atStart => exact ⟨0, Nat.zero_le _, rfl⟩
  case round =>
    obtain ⟨k, hk, rfl⟩ := hrel
    by_cases hlt : k < j
    · have hcell := hz.out k hlt
      go_wp2_with (go_at_call 38; refine (isBad_any _ _).mono ?_; rintro e w' ⟨rfl, rfl⟩)
      go_round
      case rel => exact ⟨k + 1, by omega, by go_num⟩
      case measure => simp [intOf]; omega
    · obtain rfl : k = j := by omega
      have hcell := HV.out
      go_wp2_with (go_at_call 38; refine (isBad_any _ _).mono ?_; rintro e w' ⟨rfl, rfl⟩)
      go_ret
      exact ⟨rfl, rfl⟩

set_option maxHeartbeats 400000 in
theorem good_no (b n j : Nat) (v : Int) (w : World) (hj : j < n) (hz : Hid (∀ k : Nat, k < j → w.cell? ⟨b, k, none⟩ = some (.int .i64 0))) (HV : Hid (w.cell? ⟨b, j, none⟩ = some (.int .i64 v))) (hv : (v != 0) = true) (hn : n ≤ 10) :
    Calls Tryd.prog 16 #[.slice (some ⟨b, 0, none⟩) n n] w fun e w' => e = .returned (.bool false) ∧ w' = w := by
  go_enter Tryd.func16, Tryd.ntmps16
  go_wp2_with (first | (go_at_call 37; go_in) | (go_at_call 64; refine (indexBad_some _ _ j v _ hj hz HV hv hn).mono ?_; rintro e w' ⟨rfl, rfl⟩))
  go_ret
  exact ⟨rfl, rfl⟩

theorem bad_first (w : World) (T : TypeId) (a : Int) :
    Calls Tryd.prog 16 #[.slice (some ⟨w.heap.size, 0, none⟩) 2 2] (w.alloc (.cells #[.int .i64 4, .int .i64 a] T)) fun e w' => e = .returned (.bool false) ∧ w' = w.alloc (.cells #[.int .i64 4, .int .i64 a] T) :=
  good_no _ 2 0 4 _ (by omega) (show ∀ k : Nat, _ from fun k hk => absurd hk (by omega)) (show _ = _ by simp [go_sem]) rfl (by omega)
theorem bad_second (w : World) (T : TypeId) :
    Calls Tryd.prog 16 #[.slice (some ⟨w.heap.size, 0, none⟩) 2 2] (w.alloc (.cells #[.int .i64 0, .int .i64 4] T)) fun e w' => e = .returned (.bool false) ∧ w' = w.alloc (.cells #[.int .i64 0, .int .i64 4] T) :=
  good_no _ 2 1 4 _ (by omega) (show ∀ k : Nat, _ from fun k hk => by obtain rfl : k = 0 := by omega
                                                                      simp [go_sem]) (show _ = _ by simp [go_sem]) rfl (by omega)
end Go.Proofs.YtbcfdleijpicgaaDoor
