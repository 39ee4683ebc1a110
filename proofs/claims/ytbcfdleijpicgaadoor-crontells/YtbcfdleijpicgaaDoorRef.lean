/- What the document's own answer on days and dates (package shiftbellref) comes to: the same plain mathematics; each contract by a walk over its own text. -/
import Derived.Test.YtbcfdleijpicgaaDoorCiv
namespace Go.Proofs.YtbcfdleijpicgaaDoor
open Go.RowKit Cal

set_option maxHeartbeats 400000 in
theorem LongYear_any (y : Int) (w : World) (h0 : 0 ≤ y) :
    Calls Tryd.prog 59 #[.int .i64 y] w fun e w' => e = .returned (.bool (longB y)) ∧ w' = w := by
  have HL : Hid (longB y = decide ((y % 4 = 0 ∧ y % 100 ≠ 0) ∨ y % 400 = 0)) := rfl
  by_cases h4 : (y % 400 == 0) = true
  · go_enter Tryd.func59, Tryd.ntmps59
    go_wp2
    go_ret
    exact ⟨ret_bool (by rw [HL.out]; simp at h4; simp [h4]), rfl⟩
  · replace h4 : (y % 400 == 0) = false := by simpa using h4
    by_cases h100 : (y % 4 == 0) = true
    · go_enter Tryd.func59, Tryd.ntmps59
      go_wp2
      go_ret
      exact ⟨ret_bool (by rw [HL.out]; simp at h4 h100; simp [h4, h100]; rfl), rfl⟩
    · replace h100 : (y % 4 == 0) = false := by simpa using h100
      go_enter Tryd.func59, Tryd.ntmps59
      go_wp2
      go_ret
      exact ⟨ret_bool (by rw [HL.out]; simp at h4 h100; simp [h4, h100]), rfl⟩

set_option maxHeartbeats 800000 in
theorem MonthDays_any (y m : Int) (w : World) (h1 : 1 ≤ y) (h3 : 1 ≤ m) (h4 : m ≤ 12) :
    Calls Tryd.prog 31 #[.int .i64 y, .int .i64 m] w fun e w' => e = .returned (.int .i64 (dim y m)) ∧ w' = w := by
  rcases months h3 h4 with e | e | e | e | e | e | e | e | e | e | e | e
  case inr.inl =>
    subst e
    have HD : Hid (dim y 2 = 28 + lp y) := rfl
    cases hl : longB y
    · go_enter Tryd.func31, Tryd.ntmps31
      go_wp2_with (go_at_call 59; refine (LongYear_any _ _ (by omega)).mono ?_; rintro e w' ⟨rfl, rfl⟩)
      go_ret
      exact ⟨ret_int (by rw [HD.out, lp_false hl]; omega), rfl⟩
    · go_enter Tryd.func31, Tryd.ntmps31
      go_wp2_with (go_at_call 59; refine (LongYear_any _ _ (by omega)).mono ?_; rintro e w' ⟨rfl, rfl⟩)
      go_ret
      exact ⟨ret_int (by rw [HD.out, lp_true hl]; omega), rfl⟩
  all_goals
    subst e
    go_enter Tryd.func31, Tryd.ntmps31
    go_wp2
    go_ret
    exact ⟨ret_int rfl, rfl⟩

set_option maxHeartbeats 400000 in
theorem GoodMonth_any (y m : Int) (w : World) :
    Calls Tryd.prog 60 #[.int .i64 y, .int .i64 m] w fun e w' => e = .returned (.bool (gym y m)) ∧ w' = w := by
  have HG : Hid (gym y m = decide (1 ≤ y ∧ y ≤ 9999 ∧ 1 ≤ m ∧ m ≤ 12)) := rfl
  rcases (show y < 1 ∨ 1 ≤ y ∧ 9999 < y ∨ 1 ≤ y ∧ y ≤ 9999 ∧ m < 1 ∨ 1 ≤ y ∧ y ≤ 9999 ∧ 1 ≤ m by omega) with k | ⟨k1, k2⟩ | ⟨k1, k2, k3⟩ | ⟨k1, k2, k3⟩
  · have q1 : decide (1 ≤ y) = false := decide_eq_false (by omega)
    go_enter Tryd.func60, Tryd.ntmps60
    go_wp2
    go_ret
    exact ⟨ret_bool (by rw [HG.out]; simp; omega), rfl⟩
  · have q2 : decide (y ≤ 9999) = false := decide_eq_false (by omega)
    go_enter Tryd.func60, Tryd.ntmps60
    go_wp2
    go_ret
    exact ⟨ret_bool (by rw [HG.out]; simp; omega), rfl⟩
  · have q3 : decide (1 ≤ m) = false := decide_eq_false (by omega)
    go_enter Tryd.func60, Tryd.ntmps60
    go_wp2
    go_ret
    exact ⟨ret_bool (by rw [HG.out]; simp; omega), rfl⟩
  · go_enter Tryd.func60, Tryd.ntmps60
    go_wp2
    go_ret
    exact ⟨ret_bool (by rw [HG.out]; by_cases q : m ≤ 12 <;> simp [q, k1, k2, k3]), rfl⟩

set_option maxHeartbeats 400000 in
theorem DayOf_yes (y m d : Int) (w : World) (h : vld y m d = true) :
    Calls Tryd.prog 32 #[.int .i64 y, .int .i64 m, .int .i64 d] w fun e w' => e = .returned (.tuple #[.int .i64 (num y m d), .int .i64 0]) ∧ w' = w := by
  obtain ⟨h1, h2, h3, h4, h5, h6⟩ := vld_open h
  have hg := gym_of h1 h2 h3 h4
  have hd := dim_bd y m
  have hy := ys_bd h1 (by omega)
  have hc := cum_bd y m
  have HY : Hid _ := ys_ref y
  have HN : Hid (num y m d = ys y + cum y m + d - 1) := rfl
  clear h
  go_enter Tryd.func32, Tryd.ntmps32
  go_wp2_with (first | (go_at_call 60; refine (GoodMonth_any _ _ _).mono ?_; rintro e w' ⟨rfl, rfl⟩) | (go_at_call 31; refine (MonthDays_any _ _ _ (by omega) (by omega) (by omega)).mono ?_; rintro e w' ⟨rfl, rfl⟩))
  go_loop [9, 10] (fun n i => ∃ k : Int, 1 ≤ k ∧ k ≤ m ∧ i = .int .i64 k ∧ n = .int .i64 (ys y + cum y k)) (fun _ i => (m - intOf i).toNat)
  case atStart => exact ⟨1, by omega, by omega, rfl, by rw [cum_one, HY.out]; simp⟩
  case round =>
    obtain ⟨k, hk1, hk2, rfl, rfl⟩ := hrel
    have hcb := cum_bd y k
    have hdb := dim_bd y k
    by_cases hlt : k < m
    · have HS : Hid (cum y (k + 1) = cum y k + dim y k) := cum_succ y hk1 (by omega)
      go_wp2_with (go_at_call 31; refine (MonthDays_any _ _ _ (by omega) (by omega) (by omega)).mono ?_; rintro e w' ⟨rfl, rfl⟩)
      go_round
      case rel => exact ⟨k + 1, by omega, by omega, rfl, by rw [HS.out, Int.add_assoc]⟩
      case measure => simp [intOf]; omega
    · have e : k = m := by omega
      go_wp2
      go_ret2
      exact ⟨ret_two HN.out.symm rfl, rfl⟩

set_option maxHeartbeats 400000 in
theorem DayOf_no (y m d : Int) (w : World) (h : vld y m d = false) :
    Calls Tryd.prog 32 #[.int .i64 y, .int .i64 m, .int .i64 d] w fun e w' => e = .returned (.tuple #[.int .i64 0, .int .i64 4]) ∧ w' = w := by
  have h' := vld_not h
  clear h
  cases hg : gym y m
  · clear h'
    go_enter Tryd.func32, Tryd.ntmps32
    go_wp2_with (first | (go_at_call 60; refine (GoodMonth_any _ _ _).mono ?_; rintro e w' ⟨rfl, rfl⟩))
    go_ret2
    exact ⟨rfl, rfl⟩
  · obtain ⟨h1, h2, h3, h4⟩ := gym_open hg
    have hd := dim_bd y m
    rcases (show d < 1 ∨ 1 ≤ d ∧ dim y m < d by omega) with k | ⟨k1, k2⟩
    all_goals
      clear h'
      go_enter Tryd.func32, Tryd.ntmps32
      go_wp2_with (first | (go_at_call 60; refine (GoodMonth_any _ _ _).mono ?_; rintro e w' ⟨rfl, rfl⟩) | (go_at_call 31; refine (MonthDays_any _ _ _ (by omega) (by omega) (by omega)).mono ?_; rintro e w' ⟨rfl, rfl⟩))
      go_ret2
      exact ⟨rfl, rfl⟩

set_option maxHeartbeats 400000 in
theorem DateOf_no (n : Int) (w : World) (h : n < 0 ∨ 3652058 < n) :
    Calls Tryd.prog 30 #[.int .i64 n] w fun e w' => e = .returned (.tuple #[.int .i64 0, .int .i64 0, .int .i64 0, .int .i64 4]) ∧ w' = w := by
  rcases (show n < 0 ∨ 0 ≤ n ∧ 3652058 < n by omega) with k | ⟨k1, k2⟩
  all_goals
    clear h
    go_enter Tryd.func30, Tryd.ntmps30
    go_wp2
    exact bodyPost_ret (v := .tuple #[.int .i64 0, .int .i64 0, .int .i64 0, .int .i64 4]) (by simp [results, Tryd.results30, go_sem]) rfl ⟨rfl, rfl⟩

set_option maxHeartbeats 800000 in
theorem DateOf_at (n y m d : Int) (w : World) (hv : vld y m d = true) (hn : Hid (num y m d = n)) :
    Calls Tryd.prog 30 #[.int .i64 n] w fun e w' => e = .returned (.tuple #[.int .i64 y, .int .i64 m, .int .i64 d, .int .i64 0]) ∧ w' = w := by
  have hb := num_bd hv
  rw [hn.out] at hb
  obtain ⟨h1, h2⟩ := hb
  obtain ⟨a1, a2, a3, a4, a5, a6⟩ := vld_open hv
  have ad := dim_bd y m
  go_enter Tryd.func30, Tryd.ntmps30
  go_wp2
  go_loop [6, 7] (fun l t => ∃ low top : Int, 1 ≤ low ∧ low ≤ y ∧ y < top ∧ top ≤ 10000 ∧ l = .int .i64 low ∧ t = .int .i64 top) (fun l t => (intOf t - intOf l).toNat)
  case atStart => exact ⟨1, 10000, by omega, by omega, by omega, by omega, rfl, rfl⟩
  case round =>
    obtain ⟨low, top, l1, l2, l3, l4, rfl, rfl⟩ := hrel
    by_cases hgt : 1 < top - low
    · have hvm : vld ((low + top) / 2) 1 1 = true := first_vld (by omega) (by omega) (by omega) (by omega)
      have hq := year_le (k := (low + top) / 2) hv hn.out
      rw [← num_first] at hq
      by_cases hm : (low + top) / 2 ≤ y
      · have hle : num ((low + top) / 2) 1 1 ≤ n := hq.2 hm
        clear hq
        go_wp2_with (go_at_call 32; refine (DayOf_yes _ _ _ _ hvm).mono ?_; rintro e w' ⟨rfl, rfl⟩)
        go_round
        case rel => exact ⟨(low + top) / 2, top, by omega, by omega, by omega, by omega, rfl, rfl⟩
        case measure => simp [intOf]; omega
      · have hle : n < num ((low + top) / 2) 1 1 := by
          rcases Int.lt_or_le n (num ((low + top) / 2) 1 1) with g | g
          · exact g
          · exact absurd (hq.1 g) hm
        clear hq
        go_wp2_with (go_at_call 32; refine (DayOf_yes _ _ _ _ hvm).mono ?_; rintro e w' ⟨rfl, rfl⟩)
        go_round
        case rel => exact ⟨low, (low + top) / 2, by omega, by omega, by omega, by omega, rfl, rfl⟩
        case measure => simp [intOf]; omega
    · obtain rfl : low = y := by omega
      go_wp2
      go_loop [11] (fun t => ∃ k : Int, m ≤ k ∧ k ≤ 12 ∧ t = .int .i64 k) (fun t => (intOf t).toNat)
      case atStart => exact ⟨12, by omega, by omega, rfl⟩
      case round =>
        obtain ⟨k, k1, k2, rfl⟩ := hrel
        have hvk : vld low k 1 = true := first_vld (by omega) (by omega) (by omega) (by omega)
        have hkb := num_bd hvk
        have hq := month_le (k := k) hv hn.out (by omega) k2
        by_cases hm : k ≤ m
        · have hle := hq.2 hm
          obtain rfl : k = m := by omega
          clear hq
          go_wp2_with (go_at_call 32; refine (DayOf_yes _ _ _ _ hvk).mono ?_; rintro e w' ⟨rfl, rfl⟩)
          refine bodyPost_ret (v := .tuple #[.int .i64 low, .int .i64 k, .int .i64 (n - num low k 1 + 1), .int .i64 0]) (by simp [results, Tryd.results30, go_sem]) rfl ⟨?_, rfl⟩
          have e : n - num low k 1 + 1 = d := by have := hn.out; unfold num at *; omega
          rw [e]
        · have hle : n < num low k 1 := by
            rcases Int.lt_or_le n (num low k 1) with g | g
            · exact g
            · exact absurd (hq.1 g) hm
          clear hq
          go_wp2_with (go_at_call 32; refine (DayOf_yes _ _ _ _ hvk).mono ?_; rintro e w' ⟨rfl, rfl⟩)
          go_round
          case rel => exact ⟨k - 1, by omega, by omega, rfl⟩
          case measure => simp [intOf]; omega
end Go.Proofs.YtbcfdleijpicgaaDoor
