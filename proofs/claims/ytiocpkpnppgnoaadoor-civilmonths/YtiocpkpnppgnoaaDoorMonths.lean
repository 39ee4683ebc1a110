/- CivilMonths answers true for every day and every two numbers of months: the walk over the law's own text, out of the contracts. -/
import Derived.Test.YtiocpkpnppgnoaaDoorAlive
import Derived.Test.YtiocpkpnppgnoaaDoorAdd
namespace Go.Proofs.YtiocpkpnppgnoaaDoor
open Go.RowKit Cal

set_option maxHeartbeats 400000 in
theorem civilMonths_no (n a b : Int) (w : World) (hT : Tab w) (H : Hid (n < 0 ∨ 3652058 < n)) :
    Calls Tryd.prog 8 #[.int .i64 n, .int .i64 a, .int .i64 b] w fun e w' => e = .returned (.bool true) ∧ Grown w w' := by
  go_enter Tryd.func8, Tryd.ntmps8
  go_wp2_with (first | (go_at_call 23; refine (days_any _ hT).mono ?_; rintro e w' ⟨rfl, rfl⟩) | (go_at_call 11; refine (Date_no _ _ H.out).mono ?_; rintro e w' ⟨rfl, rfl⟩))
  go_ret
  exact ⟨rfl, Grown.refl _⟩

set_option maxHeartbeats 400000 in
theorem civilMonths_past (n a b y m d : Int) (w : World) (hT : Tab w) (hv : vld y m d = true) (hn : Hid (num y m d = n))
    (h : 28 < d ∨ d ≤ 28 ∧ a < -120000 ∨ d ≤ 28 ∧ -120000 ≤ a ∧ 120000 < a ∨ d ≤ 28 ∧ -120000 ≤ a ∧ a ≤ 120000 ∧ b < -120000 ∨ d ≤ 28 ∧ -120000 ≤ a ∧ a ≤ 120000 ∧ -120000 ≤ b ∧ 120000 < b
      ∨ d ≤ 28 ∧ -120000 ≤ a ∧ a ≤ 120000 ∧ -120000 ≤ b ∧ b ≤ 120000 ∧ a + b < -120000 ∨ d ≤ 28 ∧ -120000 ≤ a ∧ a ≤ 120000 ∧ -120000 ≤ b ∧ b ≤ 120000 ∧ -120000 ≤ a + b ∧ 120000 < a + b) :
    Calls Tryd.prog 8 #[.int .i64 n, .int .i64 a, .int .i64 b] w fun e w' => e = .returned (.bool true) ∧ Grown w w' := by
  rcases h with h | ⟨h1, h⟩ | ⟨h1, h2, h⟩ | ⟨h1, h2, h3, h⟩ | ⟨h1, h2, h3, h4, h⟩ | ⟨h1, h2, h3, h4, h5, h⟩ | ⟨h1, h2, h3, h4, h5, h6, h⟩
  all_goals
    go_enter Tryd.func8, Tryd.ntmps8
    go_wp2_with (first | (go_at_call 23; refine (days_any _ hT).mono ?_; rintro e w' ⟨rfl, rfl⟩) | (go_at_call 11; refine (Date_at _ _ _ _ _ hT hv hn).mono ?_; rintro e w' ⟨rfl, rfl⟩))
    go_ret
    exact ⟨rfl, Grown.refl _⟩

set_option maxHeartbeats 400000 in
theorem civilMonths_out (n a b y m d : Int) (w : World) (hT : Tab w) (hv : vld y m d = true) (hn : Hid (num y m d = n)) (h1 : d ≤ 28) (h2 : -120000 ≤ a) (h3 : a ≤ 120000) (h4 : -120000 ≤ b) (h5 : b ≤ 120000) (h6 : -120000 ≤ a + b) (h7 : a + b ≤ 120000)
    (H : Hid (y * 12 + m - 1 + a < 12 ∨ 120000 ≤ y * 12 + m - 1 + a)) :
    Calls Tryd.prog 8 #[.int .i64 n, .int .i64 a, .int .i64 b] w fun e w' => e = .returned (.bool true) ∧ Grown w w' := by
  go_enter Tryd.func8, Tryd.ntmps8
  go_wp2_with (first | (go_at_call 23; refine (days_any _ hT).mono ?_; rintro e w' ⟨rfl, rfl⟩) | (go_at_call 11; refine (Date_at _ _ _ _ _ hT hv hn).mono ?_; rintro e w' ⟨rfl, rfl⟩))
  refine (Add_out _ _ _ _ _ _ hT hv hn h2 h3 H.out).mono ?_
  rintro e w' ⟨rfl, rfl⟩
  go_wp2_with fail
  go_ret
  exact ⟨rfl, Grown.refl _⟩

set_option maxHeartbeats 400000 in
theorem civilMonths_in (n a b y m d y1 m1 y2 m2 : Int) (w : World) (hT : Tab w) (hv : vld y m d = true) (hn : Hid (num y m d = n)) (h1 : d ≤ 28) (h2 : -120000 ≤ a) (h3 : a ≤ 120000) (h4 : -120000 ≤ b) (h5 : b ≤ 120000) (h6 : -120000 ≤ a + b) (h7 : a + b ≤ 120000)
    (E1 : Hid (y1 * 12 + m1 - 1 = y * 12 + m - 1 + a)) (g1 : gym y1 m1 = true) (hv1 : vld y1 m1 d = true) (E2 : Hid (y2 * 12 + m2 - 1 = y1 * 12 + m1 - 1 + b)) (g2 : gym y2 m2 = true) :
    Calls Tryd.prog 8 #[.int .i64 n, .int .i64 a, .int .i64 b] w fun e w' => e = .returned (.bool true) ∧ Grown w w' := by
  obtain ⟨a1, a2, a3, a4, a5, a6⟩ := vld_open hv
  have g := gym_of a1 a2 a3 a4
  go_enter Tryd.func8, Tryd.ntmps8
  go_wp2_with (first | (go_at_call 23; refine (days_any _ hT).mono ?_; rintro e w' ⟨rfl, rfl⟩) | (go_at_call 11; refine (Date_at _ _ _ _ _ hT hv hn).mono ?_; rintro e w' ⟨rfl, rfl⟩))
  refine (Add28 _ _ _ _ _ y1 m1 _ hT hv hn h2 h3 h1 E1 g1).mono ?_
  rintro e w' ⟨rfl, rfl⟩
  go_wp2_with fail
  refine (Add28 _ y1 m1 _ _ y2 m2 _ hT hv1 rfl h4 h5 h1 E2 g2).mono ?_
  rintro e w' ⟨rfl, rfl⟩
  go_wp2_with fail
  refine (Add28 _ _ _ _ _ y2 m2 _ hT hv hn h6 h7 h1 (show _ = _ by have := E1.out; have := E2.out; omega) g2).mono ?_
  rintro e w' ⟨rfl, rfl⟩
  go_wp2_with fail
  refine (Add28 _ y1 m1 _ _ y m _ hT hv1 rfl (by omega) (by omega) h1 (show _ = _ by have := E1.out; omega) g).mono ?_
  rintro e w' ⟨rfl, rfl⟩
  go_wp2_with fail
  go_ret
  exact ⟨by rw [hn.out]; simp, Grown.refl _⟩

set_option maxHeartbeats 400000 in
theorem civilMonths_far (n a b y m d y1 m1 : Int) (w : World) (hT : Tab w) (hv : vld y m d = true) (hn : Hid (num y m d = n)) (h1 : d ≤ 28) (h2 : -120000 ≤ a) (h3 : a ≤ 120000) (h4 : -120000 ≤ b) (h5 : b ≤ 120000) (h6 : -120000 ≤ a + b) (h7 : a + b ≤ 120000)
    (E1 : Hid (y1 * 12 + m1 - 1 = y * 12 + m - 1 + a)) (g1 : gym y1 m1 = true) (hv1 : vld y1 m1 d = true) (E2 : Hid (y1 * 12 + m1 - 1 + b < 12 ∨ 120000 ≤ y1 * 12 + m1 - 1 + b)) :
    Calls Tryd.prog 8 #[.int .i64 n, .int .i64 a, .int .i64 b] w fun e w' => e = .returned (.bool true) ∧ Grown w w' := by
  obtain ⟨a1, a2, a3, a4, a5, a6⟩ := vld_open hv
  have g := gym_of a1 a2 a3 a4
  go_enter Tryd.func8, Tryd.ntmps8
  go_wp2_with (first | (go_at_call 23; refine (days_any _ hT).mono ?_; rintro e w' ⟨rfl, rfl⟩) | (go_at_call 11; refine (Date_at _ _ _ _ _ hT hv hn).mono ?_; rintro e w' ⟨rfl, rfl⟩))
  refine (Add28 _ _ _ _ _ y1 m1 _ hT hv hn h2 h3 h1 E1 g1).mono ?_
  rintro e w' ⟨rfl, rfl⟩
  go_wp2_with fail
  refine (Add_out _ y1 m1 _ _ _ hT hv1 rfl h4 h5 E2.out).mono ?_
  rintro e w' ⟨rfl, rfl⟩
  go_wp2_with fail
  refine (Add_out _ _ _ _ _ _ hT hv hn h6 h7 (by have := E1.out; have := E2.out; omega)).mono ?_
  rintro e w' ⟨rfl, rfl⟩
  go_wp2_with fail
  refine (Add28 _ y1 m1 _ _ y m _ hT hv1 rfl (by omega) (by omega) h1 (show _ = _ by have := E1.out; omega) g).mono ?_
  rintro e w' ⟨rfl, rfl⟩
  go_wp2_with fail
  go_ret
  exact ⟨by rw [hn.out]; simp, Grown.refl _⟩

theorem civilMonths_walk (n a b : Int) (w : World) (hT : Tab w) :
    Calls Tryd.prog 8 #[.int .i64 n, .int .i64 a, .int .i64 b] w fun e w' => e = .returned (.bool true) ∧ Grown w w' := by
  rcases (show (n < 0 ∨ 3652058 < n) ∨ (0 ≤ n ∧ n ≤ 3652058) by omega) with h | ⟨h1, h2⟩
  · exact civilMonths_no n a b w hT h
  obtain ⟨y, m, d, hv, hn⟩ := date_ex h1 h2
  by_cases h : d ≤ 28 ∧ -120000 ≤ a ∧ a ≤ 120000 ∧ -120000 ≤ b ∧ b ≤ 120000 ∧ -120000 ≤ a + b ∧ a + b ≤ 120000
  · obtain ⟨k1, k2, k3, k4, k5, k6, k7⟩ := h
    by_cases i1 : 12 ≤ y * 12 + m - 1 + a ∧ y * 12 + m - 1 + a < 120000
    · have hv1 : vld ((y * 12 + m - 1 + a) / 12) ((y * 12 + m - 1 + a) % 12 + 1) d = true := by
        obtain ⟨a1, a2, a3, a4, a5, a6⟩ := vld_open hv
        have := dim_bd ((y * 12 + m - 1 + a) / 12) ((y * 12 + m - 1 + a) % 12 + 1)
        exact vld_of (by omega) (by omega) (by omega) (by omega) (by omega) (by omega)
      have g1 : gym ((y * 12 + m - 1 + a) / 12) ((y * 12 + m - 1 + a) % 12 + 1) = true := gym_of (by omega) (by omega) (by omega) (by omega)
      have e1 : (y * 12 + m - 1 + a) / 12 * 12 + ((y * 12 + m - 1 + a) % 12 + 1) - 1 = y * 12 + m - 1 + a := by omega
      generalize (y * 12 + m - 1 + a) / 12 = y1 at *
      generalize (y * 12 + m - 1 + a) % 12 + 1 = m1 at *
      by_cases i2 : 12 ≤ y1 * 12 + m1 - 1 + b ∧ y1 * 12 + m1 - 1 + b < 120000
      · exact civilMonths_in n a b y m d y1 m1 ((y1 * 12 + m1 - 1 + b) / 12) ((y1 * 12 + m1 - 1 + b) % 12 + 1) w hT hv hn k1 k2 k3 k4 k5 k6 k7 e1 g1 hv1 (show _ = _ by omega) (gym_of (by omega) (by omega) (by omega) (by omega))
      · exact civilMonths_far n a b y m d y1 m1 w hT hv hn k1 k2 k3 k4 k5 k6 k7 e1 g1 hv1 (show _ ∨ _ by omega)
    · exact civilMonths_out n a b y m d w hT hv hn k1 k2 k3 k4 k5 k6 k7 (show _ ∨ _ by omega)
  · exact civilMonths_past n a b y m d w hT hv hn (by omega)
end Go.Proofs.YtiocpkpnppgnoaaDoor
