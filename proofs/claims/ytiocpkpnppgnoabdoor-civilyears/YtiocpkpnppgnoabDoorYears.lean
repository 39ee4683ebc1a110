/- CivilYears answers true for every number: the walk over the law's own text, out of the contracts. -/
import Derived.Test.YtiocpkpnppgnoabDoorAlive
import Derived.Test.YtiocpkpnppgnoabDoorGood
namespace Go.Proofs.YtiocpkpnppgnoabDoor
open Go.RowKit Cal

set_option maxHeartbeats 400000 in
theorem civilYears_out (n : Int) (w : World) (hT : Tab w) (h : n < 0 ∨ 0 ≤ n ∧ 3505961 < n) :
    Calls Tryd.prog 5 #[.int .i64 n] w fun e w' => e = .returned (.bool true) ∧ Grown w w' := by
  rcases h with h | ⟨h, h'⟩
  all_goals
    go_enter Tryd.func5, Tryd.ntmps5
    go_wp2_with (go_at_call 6; refine (days_any _ hT).mono ?_; rintro e w' ⟨rfl, rfl⟩)
    refine (Date_any _ _ hT).mono ?_
    rintro e w' ⟨p1, q1, r1, s1, rfl, rfl⟩
    go_wp2_with fail
    refine (Date_any _ _ hT).mono ?_
    rintro e w' ⟨p2, q2, r2, s2, rfl, rfl⟩
    go_wp2_with fail
    go_ret
    exact ⟨rfl, Grown.refl _⟩

set_option maxHeartbeats 400000 in
theorem civilYears_in (n y m d : Int) (w : World) (hT : Tab w) (hv : vld y m d = true) (H : Hid (num y m d = n)) (h : 0 ≤ n) (h' : n ≤ 3505961) (hv' : vld (y + 400) m d = true) (H1 : Hid (num (y + 400) m d = n + 146097)) (H7 : Hid ((n + 1) % 7 = (n + 146097 + 1) % 7)) :
    Calls Tryd.prog 5 #[.int .i64 n] w fun e w' => e = .returned (.bool true) ∧ Grown w w' := by
  obtain ⟨a1, a2, a3, a4, a5, a6⟩ := vld_open hv
  go_enter Tryd.func5, Tryd.ntmps5
  go_wp2_with (go_at_call 6; refine (days_any _ hT).mono ?_; rintro e w' ⟨rfl, rfl⟩)
  refine (Date_at _ _ _ _ _ hT hv H).mono ?_
  rintro e w' ⟨rfl, rfl⟩
  go_wp2_with fail
  refine (Date_at _ _ _ _ _ hT hv' H1).mono ?_
  rintro e w' ⟨rfl, rfl⟩
  go_wp2_with fail
  refine (Weekday_yes _ _ (by omega) (by omega)).mono ?_
  rintro e w' ⟨rfl, rfl⟩
  go_wp2_with fail
  refine (Weekday_yes _ _ (by omega) (by omega)).mono ?_
  rintro e w' ⟨rfl, rfl⟩
  go_wp2_with fail
  refine (good4 _ _).mono ?_
  rintro e w1 ⟨rfl, rfl⟩
  go_wp2_with fail
  all_goals
    go_ret
    exact ⟨by first | rfl | (rw [H7.out]; simp), (Grown.refl _).alloc _ _⟩

theorem civilYears_walk (n : Int) (w : World) (hT : Tab w) :
    Calls Tryd.prog 5 #[.int .i64 n] w fun e w' => e = .returned (.bool true) ∧ Grown w w' := by
  rcases (show (n < 0 ∨ 0 ≤ n ∧ 3505961 < n) ∨ (0 ≤ n ∧ n ≤ 3505961) by omega) with h | ⟨h, h'⟩
  · exact civilYears_out n w hT h
  · obtain ⟨y, m, d, hv, hn⟩ := date_ex h (by omega)
    have e := num_400 y m d
    exact civilYears_in n y m d w hT hv hn h h' (vld_400 hv (by omega)) (show _ = _ by omega) (show _ = _ by omega)
end Go.Proofs.YtiocpkpnppgnoabDoor
