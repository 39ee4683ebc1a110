/- CivilBack answers true for every day and every date: the walk over the law's own text, out of the contracts. -/
import Derived.Test.YtiocpkpnppgnoaaDoorAlive
namespace Go.Proofs.YtiocpkpnppgnoaaDoor
open Go.RowKit Cal

set_option maxHeartbeats 400000 in
theorem civilBack_nn (n y m d : Int) (w : World) (hT : Tab w) (H : Hid (n < 0 ∨ 3652058 < n)) (k : n < 0 ∨ 0 ≤ n ∧ 3652058 < n) (hv : vld y m d = false) :
    Calls Tryd.prog 5 #[.int .i64 n, .int .i64 y, .int .i64 m, .int .i64 d] w fun e w' => e = .returned (.bool true) ∧ Grown w w' := by
  rcases k with k | ⟨k1, k2⟩
  all_goals
    go_enter Tryd.func5, Tryd.ntmps5
    go_wp2_with (first | (go_at_call 23; refine (days_any _ hT).mono ?_; rintro e w' ⟨rfl, rfl⟩) | (go_at_call 11; refine (Date_no _ _ H.out).mono ?_; rintro e w' ⟨rfl, rfl⟩) | (go_at_call 10; refine (Days_no _ _ _ _ hT hv).mono ?_; rintro e w' ⟨rfl, rfl⟩))
    go_ret
    exact ⟨rfl, Grown.refl _⟩

set_option maxHeartbeats 400000 in
theorem civilBack_ny (n y m d : Int) (w : World) (hT : Tab w) (H : Hid (n < 0 ∨ 3652058 < n)) (k : n < 0 ∨ 0 ≤ n ∧ 3652058 < n) (hv : vld y m d = true) :
    Calls Tryd.prog 5 #[.int .i64 n, .int .i64 y, .int .i64 m, .int .i64 d] w fun e w' => e = .returned (.bool true) ∧ Grown w w' := by
  have hb := num_bd hv
  rcases k with k | ⟨k1, k2⟩
  all_goals
    go_enter Tryd.func5, Tryd.ntmps5
    go_wp2_with (go_at_call 23; refine (days_any _ hT).mono ?_; rintro e w' ⟨rfl, rfl⟩)
    refine (Date_no _ _ H.out).mono ?_
    rintro e w' ⟨rfl, rfl⟩
    go_wp2_with fail
    refine (Days_yes _ _ _ _ hT hv).mono ?_
    rintro e w' ⟨rfl, rfl⟩
    go_wp2_with fail
    refine (Date_yes _ _ hT hb.1 hb.2).mono ?_
    rintro e w' ⟨y', m', d', rfl, ⟨hv', HN⟩, rfl⟩
    obtain ⟨rfl, rfl, rfl⟩ := num_inj hv' hv HN.out
    go_wp2_with fail
    go_ret
    exact ⟨by simp, Grown.refl _⟩

set_option maxHeartbeats 400000 in
theorem civilBack_yn (n y m d : Int) (w : World) (hT : Tab w) (h1 : 0 ≤ n) (h2 : n ≤ 3652058) (hv : vld y m d = false) :
    Calls Tryd.prog 5 #[.int .i64 n, .int .i64 y, .int .i64 m, .int .i64 d] w fun e w' => e = .returned (.bool true) ∧ Grown w w' := by
  go_enter Tryd.func5, Tryd.ntmps5
  go_wp2_with (go_at_call 23; refine (days_any _ hT).mono ?_; rintro e w' ⟨rfl, rfl⟩)
  refine (Date_yes _ _ hT h1 h2).mono ?_
  rintro e w' ⟨y', m', d', rfl, ⟨hv', HN⟩, rfl⟩
  have hn := HN.out
  go_wp2_with fail
  refine (Days_yes _ _ _ _ hT hv').mono ?_
  rintro e w' ⟨rfl, rfl⟩
  go_wp2_with fail
  refine (Days_no _ _ _ _ hT hv).mono ?_
  rintro e w' ⟨rfl, rfl⟩
  go_wp2_with fail
  go_ret
  exact ⟨rfl, Grown.refl _⟩

set_option maxHeartbeats 400000 in
theorem civilBack_yy (n y m d : Int) (w : World) (hT : Tab w) (h1 : 0 ≤ n) (h2 : n ≤ 3652058) (hv : vld y m d = true) :
    Calls Tryd.prog 5 #[.int .i64 n, .int .i64 y, .int .i64 m, .int .i64 d] w fun e w' => e = .returned (.bool true) ∧ Grown w w' := by
  have hb := num_bd hv
  go_enter Tryd.func5, Tryd.ntmps5
  go_wp2_with (go_at_call 23; refine (days_any _ hT).mono ?_; rintro e w' ⟨rfl, rfl⟩)
  refine (Date_yes _ _ hT h1 h2).mono ?_
  rintro e w' ⟨y', m', d', rfl, ⟨hv', HN⟩, rfl⟩
  have hn := HN.out
  go_wp2_with fail
  refine (Days_yes _ _ _ _ hT hv').mono ?_
  rintro e w' ⟨rfl, rfl⟩
  go_wp2_with fail
  refine (Days_yes _ _ _ _ hT hv).mono ?_
  rintro e w' ⟨rfl, rfl⟩
  go_wp2_with fail
  refine (Date_yes _ _ hT hb.1 hb.2).mono ?_
  rintro e w' ⟨y2, m2, d2, rfl, ⟨hv2, HN2⟩, rfl⟩
  obtain ⟨rfl, rfl, rfl⟩ := num_inj hv2 hv HN2.out
  go_wp2_with fail
  go_ret
  exact ⟨by simp, Grown.refl _⟩

theorem civilBack_walk (n y m d : Int) (w : World) (hT : Tab w) :
    Calls Tryd.prog 5 #[.int .i64 n, .int .i64 y, .int .i64 m, .int .i64 d] w fun e w' => e = .returned (.bool true) ∧ Grown w w' := by
  rcases (show (n < 0 ∨ 0 ≤ n ∧ 3652058 < n) ∨ (0 ≤ n ∧ n ≤ 3652058) by omega) with h | ⟨h1, h2⟩
  · cases hv : vld y m d
    · exact civilBack_nn n y m d w hT (show n < 0 ∨ 3652058 < n by omega) h hv
    · exact civilBack_ny n y m d w hT (show n < 0 ∨ 3652058 < n by omega) h hv
  · cases hv : vld y m d
    · exact civilBack_yn n y m d w hT h1 h2 hv
    · exact civilBack_yy n y m d w hT h1 h2 hv
end Go.Proofs.YtiocpkpnppgnoaaDoor
