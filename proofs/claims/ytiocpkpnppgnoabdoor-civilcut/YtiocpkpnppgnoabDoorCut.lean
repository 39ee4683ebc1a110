/- CivilCut answers true for every number: the walk over the law's own text, out of the contracts. -/
import Derived.Test.YtiocpkpnppgnoabDoorAlive
import Derived.Test.YtiocpkpnppgnoabDoorAdd
import Derived.Test.YtiocpkpnppgnoabDoorGood
namespace Go.Proofs.YtiocpkpnppgnoabDoor
open Go.RowKit Cal

set_option maxHeartbeats 400000 in
theorem civilCut_no (n : Int) (w : World) (hT : Tab w) (H : Hid (n < 0 ∨ 3652058 < n)) :
    Calls Tryd.prog 3 #[.int .i64 n] w fun e w' => e = .returned (.bool true) ∧ Grown w w' := by
  go_enter Tryd.func3, Tryd.ntmps3
  go_wp2_with (first | (go_at_call 6; refine (days_any _ hT).mono ?_; rintro e w' ⟨rfl, rfl⟩) | (go_at_call 7; refine (Date_no _ _ H.out).mono ?_; rintro e w' ⟨rfl, rfl⟩) | (go_at_call 8; refine (Add_day _ _ _ H).mono ?_; rintro e w' ⟨rfl, rfl⟩))
  go_ret
  exact ⟨rfl, Grown.refl _⟩

set_option maxHeartbeats 400000 in
theorem civilCut_last (n y m d : Int) (w : World) (hT : Tab w) (hv : vld y m d = true) (H : Hid (num y m d = n)) (HX : Hid (y * 12 + m - 1 + 1 < 12 ∨ 120000 ≤ y * 12 + m - 1 + 1)) :
    Calls Tryd.prog 3 #[.int .i64 n] w fun e w' => e = .returned (.bool true) ∧ Grown w w' := by
  go_enter Tryd.func3, Tryd.ntmps3
  go_wp2_with (first | (go_at_call 6; refine (days_any _ hT).mono ?_; rintro e w' ⟨rfl, rfl⟩) | (go_at_call 7; refine (Date_at _ _ _ _ _ hT hv H).mono ?_; rintro e w' ⟨rfl, rfl⟩))
  refine (Add_out _ _ _ _ _ _ hT hv H (by omega) (by omega) HX.out).mono ?_
  rintro e w' ⟨rfl, rfl⟩
  go_wp2_with fail
  go_ret
  exact ⟨rfl, Grown.refl _⟩

set_option maxHeartbeats 400000 in
theorem civilCut_in (n y m d y' m' : Int) (w : World) (hT : Tab w) (hv : vld y m d = true) (H : Hid (num y m d = n)) (HX : Hid (y' * 12 + m' - 1 = y * 12 + m - 1 + 1)) (hg : gym y' m' = true) (hv' : vld y' m' (min d (dim y' m')) = true) (hl : n < num y' m' (min d (dim y' m'))) :
    Calls Tryd.prog 3 #[.int .i64 n] w fun e w' => e = .returned (.bool true) ∧ Grown w w' := by
  obtain ⟨a1, a2, a3, a4, a5, a6⟩ := vld_open hv
  obtain ⟨b1, b2, b3, b4⟩ := gym_open hg
  have ad := dim_bd y m
  have bd := dim_bd y' m'
  have hq : (12 * y' + m' == 12 * y + m + 1) = true := beq_iff_eq.2 (by have := HX.out; omega)
  go_enter Tryd.func3, Tryd.ntmps3
  go_wp2_with (first | (go_at_call 6; refine (days_any _ hT).mono ?_; rintro e w' ⟨rfl, rfl⟩))
  refine (Date_at _ _ _ _ _ hT hv H).mono ?_
  rintro e w' ⟨rfl, rfl⟩
  go_wp2_with fail
  refine (Add_to _ _ _ _ _ y' m' _ hT hv H (by omega) (by omega) HX hg).mono ?_
  rintro e w' ⟨rfl, rfl⟩
  generalize hmn : min d (dim y' m') = c at *
  generalize hp : num y' m' c = p at *
  have HM : Hid (min d (dim y' m') = c) := hmn
  have HP : Hid (num y' m' c = p) := hp
  clear hmn hp
  go_wp2_with fail
  refine (Date_at _ _ _ _ _ hT hv' HP).mono ?_
  rintro e w' ⟨rfl, rfl⟩
  go_wp2_with fail
  refine (Length_yes _ _ _ hT hg).mono ?_
  rintro e w' ⟨rfl, rfl⟩
  go_wp2_with fail
  refine (good2 _ _).mono ?_
  rintro e w1 ⟨rfl, rfl⟩
  go_wp2_with fail
  all_goals
    go_ret
    exact ⟨by have := HM.out; first | rfl | (simp; omega), (Grown.refl _).alloc _ _⟩

theorem civilCut_walk (n : Int) (w : World) (hT : Tab w) :
    Calls Tryd.prog 3 #[.int .i64 n] w fun e w' => e = .returned (.bool true) ∧ Grown w w' := by
  rcases (show (n < 0 ∨ 3652058 < n) ∨ (0 ≤ n ∧ n ≤ 3652058) by omega) with h | ⟨h, h'⟩
  · exact civilCut_no n w hT h
  · obtain ⟨y, m, d, hv, hn⟩ := date_ex h h'
    obtain ⟨a1, a2, a3, a4, a5, a6⟩ := vld_open hv
    rcases Int.lt_or_le (y * 12 + m - 1 + 1) 120000 with l | l
    · have bd := dim_bd ((y * 12 + m - 1 + 1) / 12) ((y * 12 + m - 1 + 1) % 12 + 1)
      have g : gym ((y * 12 + m - 1 + 1) / 12) ((y * 12 + m - 1 + 1) % 12 + 1) = true := gym_of (by omega) (by omega) (by omega) (by omega)
      have e : (y * 12 + m - 1 + 1) / 12 * 12 + ((y * 12 + m - 1 + 1) % 12 + 1) - 1 = y * 12 + m - 1 + 1 := by omega
      generalize (y * 12 + m - 1 + 1) / 12 = y' at *
      generalize (y * 12 + m - 1 + 1) % 12 + 1 = m' at *
      obtain ⟨b1, b2, b3, b4⟩ := gym_open g
      have hv' : vld y' m' (min d (dim y' m')) = true := vld_of b1 b2 b3 b4 (by omega) (by omega)
      exact civilCut_in n y m d y' m' w hT hv hn e g hv' (by have := later_month hv hv' e; omega)
    · exact civilCut_last n y m d w hT hv hn (show _ ∨ _ by omega)
end Go.Proofs.YtiocpkpnppgnoabDoor
