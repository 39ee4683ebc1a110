/- What civil.Add answers, for every day and every number of months, in every world that holds the table of the months' lengths. -/
import Derived.Test.YtbcfdleijpicgaaDoorCiv
namespace Go.Proofs.YtbcfdleijpicgaaDoor
open Go.RowKit Cal

set_option maxHeartbeats 400000 in
theorem Add_day (n k : Int) (w : World) (h : Hid (n < 0 ∨ 3652058 < n)) :
    Calls Tryd.prog 9 #[.int .i64 n, .int .i64 k] w fun e w' => e = .returned (.tuple #[.int .i64 0, .int .i64 4]) ∧ w' = w := by
  go_enter Tryd.func9, Tryd.ntmps9
  go_wp2_with (go_at_call 26; refine (Date_no _ _ h.out).mono ?_; rintro e w' ⟨rfl, rfl⟩)
  go_ret2
  exact ⟨rfl, rfl⟩

set_option maxHeartbeats 400000 in
theorem Add_arg (n y m d k : Int) (w : World) (hT : Tab w) (hv : vld y m d = true) (hn : Hid (num y m d = n)) (hk : k < -120000 ∨ -120000 ≤ k ∧ 120000 < k) :
    Calls Tryd.prog 9 #[.int .i64 n, .int .i64 k] w fun e w' => e = .returned (.tuple #[.int .i64 0, .int .i64 1]) ∧ w' = w := by
  rcases hk with hk | ⟨hk, hk'⟩
  all_goals
    go_enter Tryd.func9, Tryd.ntmps9
    go_wp2_with (go_at_call 26; refine (Date_at _ _ _ _ _ hT hv hn).mono ?_; rintro e w' ⟨rfl, rfl⟩)
    go_ret2
    exact ⟨rfl, rfl⟩

set_option maxHeartbeats 400000 in
theorem Add_over (n y m d k : Int) (w : World) (hT : Tab w) (hv : vld y m d = true) (hn : Hid (num y m d = n)) (hk : -120000 ≤ k) (hk' : k ≤ 120000) (h : 120000 ≤ y * 12 + m - 1 + k) :
    Calls Tryd.prog 9 #[.int .i64 n, .int .i64 k] w fun e w' => e = .returned (.tuple #[.int .i64 0, .int .i64 4]) ∧ w' = w := by
  obtain ⟨a1, a2, a3, a4, _, _⟩ := vld_open hv
  have hb : yearB ((y * 12 + m - 1 + k) / 12) = false := decide_eq_false (by omega)
  go_enter Tryd.func9, Tryd.ntmps9
  go_wp2_with (first | (go_at_call 26; refine (Date_at _ _ _ _ _ hT hv hn).mono ?_; rintro e w' ⟨rfl, rfl⟩) | (go_at_call 27; refine (isYear_any _ _).mono ?_; rintro e w' ⟨rfl, rfl⟩))
  go_ret2
  exact ⟨rfl, rfl⟩

set_option maxHeartbeats 400000 in
theorem Add_in (n y m d k : Int) (w : World) (hT : Tab w) (hv : vld y m d = true) (hn : Hid (num y m d = n)) (hk : -120000 ≤ k) (hk' : k ≤ 120000) (h : 12 ≤ y * 12 + m - 1 + k) (h' : y * 12 + m - 1 + k < 120000) :
    Calls Tryd.prog 9 #[.int .i64 n, .int .i64 k] w fun e w' => e = .returned (.tuple #[.int .i64 (num ((y * 12 + m - 1 + k) / 12) ((y * 12 + m - 1 + k) % 12 + 1) (min d (dim ((y * 12 + m - 1 + k) / 12) ((y * 12 + m - 1 + k) % 12 + 1)))), .int .i64 0]) ∧ w' = w := by
  obtain ⟨a1, a2, a3, a4, a5, a6⟩ := vld_open hv
  have ad := dim_bd y m
  have hb : yearB ((y * 12 + m - 1 + k) / 12) = true := decide_eq_true (by omega)
  have b1 := ys_bd (y := (y * 12 + m - 1 + k) / 12) (by omega) (by omega)
  have b2 := cum_bd ((y * 12 + m - 1 + k) / 12) ((y * 12 + m - 1 + k) % 12 + 1)
  have b3 := dim_bd ((y * 12 + m - 1 + k) / 12) ((y * 12 + m - 1 + k) % 12 + 1)
  go_enter Tryd.func9, Tryd.ntmps9
  go_wp2_with (first | (go_at_call 26; refine (Date_at _ _ _ _ _ hT hv hn).mono ?_; rintro e w' ⟨rfl, rfl⟩) | (go_at_call 27; refine (isYear_any _ _).mono ?_; rintro e w' ⟨rfl, rfl⟩) | (go_at_call 28; refine (monthStart_any _ _ _ hT (by omega) (by omega) (by omega) (by omega)).mono ?_; rintro e w' ⟨rfl, rfl⟩) | (go_at_call 29; refine (length_any _ _ _ hT (by omega) (by omega) (by omega)).mono ?_; rintro e w' ⟨rfl, rfl⟩))
  all_goals
    go_ret2
    exact ⟨ret_two (by unfold num; omega) rfl, rfl⟩

theorem tdiv_low {x : Int} (h : x < 0) : x.tdiv 12 ≤ 0 := by
  have e : x.tdiv 12 = -((-x) / 12) := by rw [← Int.tdiv_eq_ediv_of_nonneg (by omega), Int.neg_tdiv, Int.neg_neg]
  rw [e]; omega

set_option maxHeartbeats 400000 in
theorem Add_under (n y m d k : Int) (w : World) (hT : Tab w) (hv : vld y m d = true) (hn : Hid (num y m d = n)) (hk : -120000 ≤ k) (hk' : k ≤ 120000) (h : y * 12 + m - 1 + k < 12) :
    Calls Tryd.prog 9 #[.int .i64 n, .int .i64 k] w fun e w' => e = .returned (.tuple #[.int .i64 0, .int .i64 4]) ∧ w' = w := by
  obtain ⟨a1, a2, a3, a4, _, _⟩ := vld_open hv
  rcases Int.lt_or_le (y * 12 + m - 1 + k) 0 with l | l
  · have hb : yearB ((y * 12 + m - 1 + k).tdiv 12) = false := decide_eq_false (by have := tdiv_low l; omega)
    go_enter Tryd.func9, Tryd.ntmps9
    go_wp2_with (first | (go_at_call 26; refine (Date_at _ _ _ _ _ hT hv hn).mono ?_; rintro e w' ⟨rfl, rfl⟩) | (go_at_call 27; refine (isYear_any _ _).mono ?_; rintro e w' ⟨rfl, rfl⟩))
    go_ret2
    exact ⟨rfl, rfl⟩
  · have hb : yearB ((y * 12 + m - 1 + k) / 12) = false := decide_eq_false (by omega)
    go_enter Tryd.func9, Tryd.ntmps9
    go_wp2_with (first | (go_at_call 26; refine (Date_at _ _ _ _ _ hT hv hn).mono ?_; rintro e w' ⟨rfl, rfl⟩) | (go_at_call 27; refine (isYear_any _ _).mono ?_; rintro e w' ⟨rfl, rfl⟩))
    go_ret2
    exact ⟨rfl, rfl⟩

theorem Add_out (n y m d k : Int) (w : World) (hT : Tab w) (hv : vld y m d = true) (hn : Hid (num y m d = n)) (hk : -120000 ≤ k) (hk' : k ≤ 120000) (h : y * 12 + m - 1 + k < 12 ∨ 120000 ≤ y * 12 + m - 1 + k) :
    Calls Tryd.prog 9 #[.int .i64 n, .int .i64 k] w fun e w' => e = .returned (.tuple #[.int .i64 0, .int .i64 4]) ∧ w' = w := by
  rcases h with h | h
  · exact Add_under n y m d k w hT hv hn hk hk' h
  · exact Add_over n y m d k w hT hv hn hk hk' h

theorem Add_to (n y m d k y' m' : Int) (w : World) (hT : Tab w) (hv : vld y m d = true) (hn : Hid (num y m d = n)) (hk : -120000 ≤ k) (hk' : k ≤ 120000) (he : Hid (y' * 12 + m' - 1 = y * 12 + m - 1 + k)) (g : gym y' m' = true) :
    Calls Tryd.prog 9 #[.int .i64 n, .int .i64 k] w fun e w' => e = .returned (.tuple #[.int .i64 (num y' m' (min d (dim y' m'))), .int .i64 0]) ∧ w' = w := by
  obtain ⟨g1, g2, g3, g4⟩ := gym_open g
  have e := he.out
  have e1 : (y * 12 + m - 1 + k) / 12 = y' := by omega
  have e2 : (y * 12 + m - 1 + k) % 12 + 1 = m' := by omega
  have := Add_in n y m d k w hT hv hn hk hk' (by omega) (by omega)
  rw [e1, e2] at this
  exact this

theorem Add28 (n y m d k y' m' : Int) (w : World) (hT : Tab w) (hv : vld y m d = true) (hn : Hid (num y m d = n)) (hk : -120000 ≤ k) (hk' : k ≤ 120000) (hd : d ≤ 28) (he : Hid (y' * 12 + m' - 1 = y * 12 + m - 1 + k)) (g : gym y' m' = true) :
    Calls Tryd.prog 9 #[.int .i64 n, .int .i64 k] w fun e w' => e = .returned (.tuple #[.int .i64 (num y' m' d), .int .i64 0]) ∧ w' = w := by
  have := Add_to n y m d k y' m' w hT hv hn hk hk' he g
  have b := dim_bd y' m'
  rw [show min d (dim y' m') = d by omega] at this
  exact this
end Go.Proofs.YtbcfdleijpicgaaDoor
