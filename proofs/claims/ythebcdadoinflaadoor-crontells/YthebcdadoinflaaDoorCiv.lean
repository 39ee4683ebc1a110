/- What each function of package civil that this seat's laws come to answers, for every argument, in every world that holds the table of the months' lengths: the contracts, each proved by a walk over its own text. -/
import Derived.Test.YthebcdadoinflaaDoorProg
import Derived.Test.YthebcdadoinflaaDoorCal
import Derived.WalkKit
import Derived.WalkSpells
import Derived.WalkLawsBesides
namespace Go.Proofs.YthebcdadoinflaaDoor
open Go.RowKit Cal

/-- The table of the months' lengths lies in its variable. -/
def Tab (w : World) : Prop := ∀ k : Nat, k < 12 → w.cell? ⟨3, k, none⟩ = some (.int .i64 (base (k + 1)))

theorem ret_int {k : IntKind} {a b : Int} (h : a = b) : Ending.returned (.int k a) = .returned (.int k b) := by rw [h]
theorem ret_bool {a b : Bool} (h : a = b) : Ending.returned (.bool a) = .returned (.bool b) := by rw [h]

theorem ret_two {k l : IntKind} {a b a' b' : Int} (h : a = a') (h' : b = b') : Ending.returned (.tuple #[.int k a, .int l b]) = .returned (.tuple #[.int k a', .int l b']) := by rw [h, h']

set_option maxHeartbeats 400000 in
theorem isDay_any (n : Int) (w : World) :
    Calls Tryd.prog 64 #[.int .i64 n] w fun e w' => e = .returned (.bool (dayB n)) ∧ w' = w := by
  have HB : Hid (dayB n = decide (0 ≤ n ∧ n ≤ 3652058)) := rfl
  by_cases h : 0 ≤ n
  all_goals
    go_enter Tryd.func64, Tryd.ntmps64
    go_wp2
    go_ret
    exact ⟨ret_bool (by rw [HB.out]; simp; omega), rfl⟩

set_option maxHeartbeats 400000 in
theorem isYear_any (n : Int) (w : World) :
    Calls Tryd.prog 68 #[.int .i64 n] w fun e w' => e = .returned (.bool (yearB n)) ∧ w' = w := by
  have HB : Hid (yearB n = decide (1 ≤ n ∧ n ≤ 9999)) := rfl
  by_cases h : 1 ≤ n
  all_goals
    go_enter Tryd.func68, Tryd.ntmps68
    go_wp2
    go_ret
    exact ⟨ret_bool (by rw [HB.out]; simp; omega), rfl⟩

set_option maxHeartbeats 400000 in
theorem isLong_any (y : Int) (w : World) (h0 : 0 ≤ y) :
    Calls Tryd.prog 78 #[.int .i64 y] w fun e w' => e = .returned (.bool (longB y)) ∧ w' = w := by
  have HL : Hid (longB y = decide ((y % 4 = 0 ∧ y % 100 ≠ 0) ∨ y % 400 = 0)) := rfl
  by_cases h4 : (y % 4 == 0) = true
  · by_cases h100 : (y % 100 != 0) = true
    · go_enter Tryd.func78, Tryd.ntmps78
      go_wp2
      go_ret
      exact ⟨ret_bool (by rw [HL.out]; simp at h4 h100; simp [h4, h100]), rfl⟩
    · replace h100 : (y % 100 != 0) = false := by simpa using h100
      go_enter Tryd.func78, Tryd.ntmps78
      go_wp2
      go_ret
      exact ⟨ret_bool (by rw [HL.out]; simp at h4 h100; simp [h4, h100]; rfl), rfl⟩
  · replace h4 : (y % 4 == 0) = false := by simpa using h4
    go_enter Tryd.func78, Tryd.ntmps78
    go_wp2
    go_ret
    exact ⟨ret_bool (by rw [HL.out]; simp at h4; simp [h4]; rfl), rfl⟩

set_option maxHeartbeats 400000 in
theorem yearStart_any (y : Int) (w : World) (h1 : 1 ≤ y) (h2 : y ≤ 10000) :
    Calls Tryd.prog 67 #[.int .i64 y] w fun e w' => e = .returned (.int .i64 (ys y)) ∧ w' = w := by
  go_enter Tryd.func67, Tryd.ntmps67
  go_wp2
  go_ret
  exact ⟨ret_int rfl, rfl⟩

set_option maxHeartbeats 400000 in
theorem length_feb (y : Int) (w : World) (hT : Tab w) (h1 : 1 ≤ y) :
    Calls Tryd.prog 69 #[.int .i64 y, .int .i64 2] w fun e w' => e = .returned (.int .i64 (dim y 2)) ∧ w' = w := by
  have hc : w.cell? ⟨3, 1, none⟩ = some (.int .i64 28) := hT 1 (by omega)
  have HD : Hid (dim y 2 = 28 + lp y) := rfl
  cases hl : longB y
  · go_enter Tryd.func69, Tryd.ntmps69
    go_wp2_with (go_at_call 78; refine (isLong_any _ _ (by omega)).mono ?_; rintro e w' ⟨rfl, rfl⟩)
    go_ret
    exact ⟨ret_int (by rw [HD.out, lp_false hl]; omega), rfl⟩
  · go_enter Tryd.func69, Tryd.ntmps69
    go_wp2_with (go_at_call 78; refine (isLong_any _ _ (by omega)).mono ?_; rintro e w' ⟨rfl, rfl⟩)
    go_ret
    exact ⟨ret_int (by rw [HD.out, lp_true hl]; omega), rfl⟩

set_option maxHeartbeats 400000 in
theorem length_else (y m : Int) (w : World) (hT : Tab w) (h3 : 1 ≤ m) (h4 : m ≤ 12) (h2 : (m == 2) = false) :
    Calls Tryd.prog 69 #[.int .i64 y, .int .i64 m] w fun e w' => e = .returned (.int .i64 (dim y m)) ∧ w' = w := by
  have hc : w.cell? ⟨3, m.toNat - 1, none⟩ = some (.int .i64 (base m)) := by
    have := hT (m.toNat - 1) (by omega)
    rw [this]; congr 3; omega
  have HD : Hid (dim y m = base m) := by
    have : m ≠ 2 := by simpa using h2
    show (if m = 2 then 28 + lp y else base m) = base m
    rw [if_neg this]
  go_enter Tryd.func69, Tryd.ntmps69
  go_wp2
  go_ret
  exact ⟨ret_int (by rw [HD.out]), rfl⟩

theorem length_any (y m : Int) (w : World) (hT : Tab w) (h1 : 1 ≤ y) (h3 : 1 ≤ m) (h4 : m ≤ 12) :
    Calls Tryd.prog 69 #[.int .i64 y, .int .i64 m] w fun e w' => e = .returned (.int .i64 (dim y m)) ∧ w' = w := by
  by_cases h2 : m = 2
  · rw [h2]; exact length_feb y w hT h1
  · exact length_else y m w hT h3 h4 (by simpa using h2)

set_option maxHeartbeats 400000 in
theorem yearOf_any (n : Int) (w : World) (h1 : 0 ≤ n) (h2 : n ≤ 3652058) :
    Calls Tryd.prog 65 #[.int .i64 n] w fun e w' => ∃ y : Int, e = .returned (.int .i64 y) ∧ (1 ≤ y ∧ y ≤ 9999 ∧ ys y ≤ n ∧ n < ys (y + 1)) ∧ w' = w := by
  have g0 := ys_guess h1
  go_enter Tryd.func65, Tryd.ntmps65
  go_wp2
  go_loop [3] (fun t => ∃ y : Int, 1 ≤ y ∧ y ≤ 9999 ∧ ys y ≤ n ∧ t = .int .i64 y) (fun t => (9999 - intOf t).toNat)
  case atStart =>
    refine ⟨_, ?_, ?_, g0, rfl⟩
    · omega
    · rcases Int.lt_or_le 9999 (n / 366 + 1) with h | h
      · have := ys_mono (show 10000 ≤ n / 366 + 1 by omega)
        have := ys_end
        omega
      · exact h
  case round =>
    obtain ⟨y, hy1, hy2, hy3, rfl⟩ := hrel
    clear g0
    by_cases hc : ys (y + 1) ≤ n
    · have hlt : y < 9999 := by
        rcases Int.lt_or_le y 9999 with h | h
        · exact h
        · have e : y = 9999 := by omega
          have := ys_end
          rw [e] at hc
          have : ys (9999 + 1) = 3652059 := this
          omega
      go_wp2_with (go_at_call 67; refine (yearStart_any _ _ (by omega) (by omega)).mono ?_; rintro e w' ⟨rfl, rfl⟩)
      go_round
      case rel => exact ⟨y + 1, by omega, by omega, hc, rfl⟩
      case measure => simp [intOf]; omega
    · go_wp2_with (go_at_call 67; refine (yearStart_any _ _ (by omega) (by omega)).mono ?_; rintro e w' ⟨rfl, rfl⟩)
      go_ret
      exact ⟨y, rfl, ⟨hy1, hy2, hy3, by omega⟩, rfl⟩

set_option maxHeartbeats 400000 in
theorem monthOf_any (y r : Int) (w : World) (hT : Tab w) (h1 : 1 ≤ y) (h3 : 0 ≤ r) (h4 : r < 365 + lp y) :
    Calls Tryd.prog 66 #[.int .i64 y, .int .i64 r] w fun e w' => ∃ m d : Int, e = .returned (.tuple #[.int .i64 m, .int .i64 d]) ∧ (1 ≤ m ∧ m ≤ 12 ∧ 1 ≤ d ∧ d ≤ dim y m ∧ r = cum y m + d - 1) ∧ w' = w := by
  have hl := lp_01 y
  go_enter Tryd.func66, Tryd.ntmps66
  go_wp2
  go_loop [1, 6] (fun p i => ∃ m : Int, 1 ≤ m ∧ m ≤ 12 ∧ i = .int .i64 m ∧ 0 ≤ r - cum y m ∧ p = .int .i64 (r - cum y m)) (fun _ i => (12 - intOf i).toNat)
  case atStart => exact ⟨1, by omega, by omega, rfl, by rw [cum_one]; omega, by rw [cum_one]; simp⟩
  case round =>
    obtain ⟨m, hm1, hm2, rfl, hr, rfl⟩ := hrel
    have hcb := cum_bd y m
    have hdb := dim_bd y m
    by_cases hc : dim y m ≤ r - cum y m
    · have HS : Hid (cum y (m + 1) = cum y m + dim y m) := cum_succ y hm1 hm2
      have hlt : m < 12 := by
        rcases Int.lt_or_le m 12 with h | h
        · exact h
        · have e : m = 12 := by omega
          have h13 := cum_end y
          have hs := HS.out
          rw [e] at hs hc
          have : cum y (12 + 1) = 365 + lp y := h13
          omega
      go_wp2_with (go_at_call 69; refine (length_any _ _ _ hT (by omega) (by omega) (by omega)).mono ?_; rintro e w' ⟨rfl, rfl⟩)
      go_round
      case rel => exact ⟨m + 1, by omega, by omega, rfl, by rw [HS.out]; omega, by rw [HS.out]; go_num⟩
      case measure => simp [intOf]; omega
    · go_wp2_with (go_at_call 69; refine (length_any _ _ _ hT (by omega) (by omega) (by omega)).mono ?_; rintro e w' ⟨rfl, rfl⟩)
      go_ret2
      exact ⟨m, r - cum y m + 1, rfl, ⟨hm1, hm2, by omega, by omega, by omega⟩, rfl⟩

set_option maxHeartbeats 400000 in
theorem Length_yes (y m : Int) (w : World) (hT : Tab w) (h : gym y m = true) :
    Calls Tryd.prog 53 #[.int .i64 y, .int .i64 m] w fun e w' => e = .returned (.tuple #[.int .i64 (dim y m), .int .i64 0]) ∧ w' = w := by
  obtain ⟨h1, h2, h3, h4⟩ := gym_open h
  have hb : yearB y = true := decide_eq_true ⟨h1, h2⟩
  clear h
  go_enter Tryd.func53, Tryd.ntmps53
  go_wp2_with (first | (go_at_call 68; refine (isYear_any _ _).mono ?_; rintro e w' ⟨rfl, rfl⟩) | (go_at_call 69; refine (length_any _ _ _ hT (by omega) (by omega) (by omega)).mono ?_; rintro e w' ⟨rfl, rfl⟩))
  go_ret2
  exact ⟨rfl, rfl⟩

set_option maxHeartbeats 400000 in
theorem Length_no (y m : Int) (w : World) (h : gym y m = false) :
    Calls Tryd.prog 53 #[.int .i64 y, .int .i64 m] w fun e w' => e = .returned (.tuple #[.int .i64 0, .int .i64 4]) ∧ w' = w := by
  have h' := gym_not h
  clear h
  cases hb : yearB y
  · clear h'
    go_enter Tryd.func53, Tryd.ntmps53
    go_wp2_with (go_at_call 68; refine (isYear_any _ _).mono ?_; rintro e w' ⟨rfl, rfl⟩)
    go_ret2
    exact ⟨rfl, rfl⟩
  · have hy : 1 ≤ y ∧ y ≤ 9999 := of_decide_eq_true hb
    rcases (show m < 1 ∨ 1 ≤ m ∧ 12 < m by omega) with k | ⟨k1, k2⟩
    all_goals
      clear h' hy
      go_enter Tryd.func53, Tryd.ntmps53
      go_wp2_with (go_at_call 68; refine (isYear_any _ _).mono ?_; rintro e w' ⟨rfl, rfl⟩)
      go_ret2
      exact ⟨rfl, rfl⟩

set_option maxHeartbeats 400000 in
theorem Weekday_yes (n : Int) (w : World) (h1 : 0 ≤ n) (h2 : n ≤ 3652058) :
    Calls Tryd.prog 50 #[.int .i64 n] w fun e w' => e = .returned (.tuple #[.int .i64 ((n + 1) % 7), .int .i64 0]) ∧ w' = w := by
  have hb : dayB n = true := decide_eq_true ⟨h1, h2⟩
  go_enter Tryd.func50, Tryd.ntmps50
  go_wp2_with (go_at_call 64; refine (isDay_any _ _).mono ?_; rintro e w' ⟨rfl, rfl⟩)
  go_ret2
  exact ⟨rfl, rfl⟩

set_option maxHeartbeats 400000 in
theorem Weekday_no (n : Int) (w : World) (h : n < 0 ∨ 3652058 < n) :
    Calls Tryd.prog 50 #[.int .i64 n] w fun e w' => e = .returned (.tuple #[.int .i64 0, .int .i64 4]) ∧ w' = w := by
  have hb : dayB n = false := decide_eq_false (by omega)
  clear h
  · go_enter Tryd.func50, Tryd.ntmps50
    go_wp2_with (go_at_call 64; refine (isDay_any _ _).mono ?_; rintro e w' ⟨rfl, rfl⟩)
    go_ret2
    exact ⟨rfl, rfl⟩

set_option maxHeartbeats 400000 in
theorem Date_no (n : Int) (w : World) (h : n < 0 ∨ 3652058 < n) :
    Calls Tryd.prog 49 #[.int .i64 n] w fun e w' => e = .returned (.tuple #[.int .i64 0, .int .i64 0, .int .i64 0, .int .i64 4]) ∧ w' = w := by
  have hb : dayB n = false := decide_eq_false (by omega)
  clear h
  · go_enter Tryd.func49, Tryd.ntmps49
    go_wp2_with (go_at_call 64; refine (isDay_any _ _).mono ?_; rintro e w' ⟨rfl, rfl⟩)
    exact bodyPost_ret (v := .tuple #[.int .i64 0, .int .i64 0, .int .i64 0, .int .i64 4]) (by simp [results, Tryd.results49, go_sem]) rfl ⟨rfl, rfl⟩

set_option maxHeartbeats 400000 in
theorem Date_yes (n : Int) (w : World) (hT : Tab w) (h1 : 0 ≤ n) (h2 : n ≤ 3652058) :
    Calls Tryd.prog 49 #[.int .i64 n] w fun e w' => ∃ y m d : Int, e = .returned (.tuple #[.int .i64 y, .int .i64 m, .int .i64 d, .int .i64 0]) ∧ (vld y m d = true ∧ Hid (num y m d = n)) ∧ w' = w := by
  have hb : dayB n = true := decide_eq_true ⟨h1, h2⟩
  go_enter Tryd.func49, Tryd.ntmps49
  go_wp2_with (go_at_call 64; refine (isDay_any _ _).mono ?_; rintro e w' ⟨rfl, rfl⟩)
  refine (yearOf_any _ _ h1 h2).mono ?_
  rintro e w' ⟨y, rfl, ⟨a1, a2, a3, a4⟩, rfl⟩
  have b := ys_bd a1 (by omega)
  have b' := ys_succ y
  have bl := lp_01 y
  have B' : Hid (ys (y + 1) = ys y + 365 + lp y) := b'
  clear b'
  have a5 : n - ys y < 365 + lp y := by have := B'.out; omega
  clear a4
  go_wp2_with (first | (go_at_call 67; refine (yearStart_any _ _ (by omega) (by omega)).mono ?_; rintro e w' ⟨rfl, rfl⟩))
  refine (monthOf_any _ _ _ hT (by omega) (by omega) (by omega)).mono ?_
  rintro e w' ⟨m, d, rfl, ⟨c1, c2, c3, c4, c5⟩, rfl⟩
  have C : Hid (n - ys y = cum y m + d - 1) := c5
  clear c5
  go_wp2_with fail
  exact bodyPost_ret (v := .tuple #[.int .i64 y, .int .i64 m, .int .i64 d, .int .i64 0]) (by simp [results, Tryd.results49, go_sem]) rfl ⟨y, m, d, rfl, ⟨vld_of a1 a2 c1 c2 c3 c4, show num y m d = n by have := C.out; unfold num; omega⟩, rfl⟩

theorem Date_at (n y m d : Int) (w : World) (hT : Tab w) (hv : vld y m d = true) (hn : Hid (num y m d = n)) :
    Calls Tryd.prog 49 #[.int .i64 n] w fun e w' => e = .returned (.tuple #[.int .i64 y, .int .i64 m, .int .i64 d, .int .i64 0]) ∧ w' = w := by
  have hb := num_bd hv
  rw [hn.out] at hb
  refine (Date_yes n w hT hb.1 hb.2).mono ?_
  rintro e w' ⟨y', m', d', rfl, ⟨hv', HN⟩, rfl⟩
  obtain ⟨rfl, rfl, rfl⟩ := num_inj hv' hv (HN.out.trans hn.out.symm)
  exact ⟨rfl, rfl⟩

theorem Date_any (n : Int) (w : World) (hT : Tab w) :
    Calls Tryd.prog 49 #[.int .i64 n] w fun e w' => ∃ p q r s : Int, e = .returned (.tuple #[.int .i64 p, .int .i64 q, .int .i64 r, .int .i64 s]) ∧ w' = w := by
  rcases (show (n < 0 ∨ 3652058 < n) ∨ (0 ≤ n ∧ n ≤ 3652058) by omega) with h | ⟨h1, h2⟩
  · refine (Date_no n w h).mono ?_
    rintro e w' ⟨rfl, rfl⟩
    exact ⟨0, 0, 0, 4, rfl, rfl⟩
  · refine (Date_yes n w hT h1 h2).mono ?_
    rintro e w' ⟨y, m, d, rfl, _, rfl⟩
    exact ⟨y, m, d, 0, rfl, rfl⟩
end Go.Proofs.YthebcdadoinflaaDoor
