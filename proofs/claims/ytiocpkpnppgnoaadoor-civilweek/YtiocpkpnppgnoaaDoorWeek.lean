/- CivilWeek answers true for every number: the walk over the law's own text, out of the contracts. -/
import Derived.Test.YtiocpkpnppgnoaaDoorAlive
namespace Go.Proofs.YtiocpkpnppgnoaaDoor
open Go.RowKit Cal

set_option maxHeartbeats 400000 in
theorem civilWeek_walk (n : Int) (w : World) (hT : Tab w) :
    Calls Tryd.prog 7 #[.int .i64 n] w fun e w' => e = .returned (.bool true) ∧ Grown w w' := by
  rcases (show (n < 0 ∨ 3652058 < n) ∨ (0 ≤ n ∧ n ≤ 3652058) by omega) with h | ⟨h1, h2⟩
  · have H : Hid (n < 0 ∨ 3652058 < n) := h
    clear h
    go_enter Tryd.func7, Tryd.ntmps7
    go_wp2_with (first | (go_at_call 23; refine (days_any _ hT).mono ?_; rintro e w' ⟨rfl, rfl⟩) | (go_at_call 12; refine (Weekday_no _ _ H.out).mono ?_; rintro e w' ⟨rfl, rfl⟩) | (go_at_call 11; refine (Date_no _ _ H.out).mono ?_; rintro e w' ⟨rfl, rfl⟩))
    go_ret
    exact ⟨rfl, Grown.refl _⟩
  · go_enter Tryd.func7, Tryd.ntmps7
    go_wp2_with (first | (go_at_call 23; refine (days_any _ hT).mono ?_; rintro e w' ⟨rfl, rfl⟩) | (go_at_call 12; refine (Weekday_yes _ _ h1 h2).mono ?_; rintro e w' ⟨rfl, rfl⟩))
    refine (Date_yes _ _ hT h1 h2).mono ?_
    rintro e w' ⟨y, m, d, rfl, ⟨hv, HN⟩, rfl⟩
    obtain ⟨a1, a2, a3, a4, a5, a6⟩ := vld_open hv
    have ad := dim_bd y m
    by_cases h3 : m < 3
    · have HZ : Hid _ := zeller_low hv h3
      go_wp2_with fail
      go_ret
      exact ⟨ret_bool (by have := HZ.out; rw [HN.out] at this; simp; omega), Grown.refl _⟩
    · have HZ : Hid _ := zeller_top hv (by omega)
      go_wp2_with fail
      go_ret
      exact ⟨ret_bool (by have := HZ.out; rw [HN.out] at this; simp; omega), Grown.refl _⟩
end Go.Proofs.YtiocpkpnppgnoaaDoor
