/- CivilTells answers true for every input: Length, Days, Date and Weekday answer what the document's own answer says: the walk over the law's own text, out of the contracts. -/
import Derived.Test.YtiocpkpnppgnoaaDoorRef
namespace Go.Proofs.YtiocpkpnppgnoaaDoor
open Go.RowKit Cal

set_option maxHeartbeats 400000 in
theorem civilTells_in (y m d n : Int) (w : World) (hT : Tab w) (p q r : Int) (hp : vld p q r = true) (HP : Hid (num p q r = n)) (h1 : 0 ≤ n) (h2 : n ≤ 3652058) :
    Calls Tryd.prog 3 #[.int .i64 y, .int .i64 m, .int .i64 d, .int .i64 n] w fun e w' => e = .returned (.bool true) ∧ Grown w w' := by
  cases hg : gym y m
  · have hv : vld y m d = false := by
      cases hv : vld y m d
      · rfl
      · obtain ⟨a1, a2, a3, a4, _, _⟩ := vld_open hv
        rw [gym_of a1 a2 a3 a4] at hg; exact hg
    go_enter Tryd.func3, Tryd.ntmps3
    go_wp2_with (first | (go_at_call 9; refine (Length_no _ _ _ hg).mono ?_; rintro e w' ⟨rfl, rfl⟩) | (go_at_call 10; refine (Days_no _ _ _ _ hT hv).mono ?_; rintro e w' ⟨rfl, rfl⟩) | (go_at_call 11; refine (Date_at _ _ _ _ _ hT hp HP).mono ?_; rintro e w' ⟨rfl, rfl⟩) | (go_at_call 12; refine (Weekday_yes _ _ h1 h2).mono ?_; rintro e w' ⟨rfl, rfl⟩) | (go_at_call 13; refine (DayOf_no _ _ _ _ hv).mono ?_; rintro e w' ⟨rfl, rfl⟩) | (go_at_call 14; refine (DateOf_at _ _ _ _ _ hp HP).mono ?_; rintro e w' ⟨rfl, rfl⟩) | (go_at_call 15; refine (GoodMonth_any _ _ _).mono ?_; rintro e w' ⟨rfl, rfl⟩))
    go_ret
    exact ⟨rfl, Grown.refl _⟩
  · obtain ⟨a1, a2, a3, a4⟩ := gym_open hg
    cases hv : vld y m d
    · go_enter Tryd.func3, Tryd.ntmps3
      go_wp2_with (first | (go_at_call 9; refine (Length_yes _ _ _ hT hg).mono ?_; rintro e w' ⟨rfl, rfl⟩) | (go_at_call 10; refine (Days_no _ _ _ _ hT hv).mono ?_; rintro e w' ⟨rfl, rfl⟩) | (go_at_call 11; refine (Date_at _ _ _ _ _ hT hp HP).mono ?_; rintro e w' ⟨rfl, rfl⟩) | (go_at_call 12; refine (Weekday_yes _ _ h1 h2).mono ?_; rintro e w' ⟨rfl, rfl⟩) | (go_at_call 13; refine (DayOf_no _ _ _ _ hv).mono ?_; rintro e w' ⟨rfl, rfl⟩) | (go_at_call 14; refine (DateOf_at _ _ _ _ _ hp HP).mono ?_; rintro e w' ⟨rfl, rfl⟩) | (go_at_call 15; refine (GoodMonth_any _ _ _).mono ?_; rintro e w' ⟨rfl, rfl⟩) | (go_at_call 16; refine (MonthDays_any _ _ _ a1 a3 a4).mono ?_; rintro e w' ⟨rfl, rfl⟩))
      go_ret
      exact ⟨by simp, Grown.refl _⟩
    · go_enter Tryd.func3, Tryd.ntmps3
      go_wp2_with (first | (go_at_call 9; refine (Length_yes _ _ _ hT hg).mono ?_; rintro e w' ⟨rfl, rfl⟩) | (go_at_call 10; refine (Days_yes _ _ _ _ hT hv).mono ?_; rintro e w' ⟨rfl, rfl⟩) | (go_at_call 11; refine (Date_at _ _ _ _ _ hT hp HP).mono ?_; rintro e w' ⟨rfl, rfl⟩) | (go_at_call 12; refine (Weekday_yes _ _ h1 h2).mono ?_; rintro e w' ⟨rfl, rfl⟩) | (go_at_call 13; refine (DayOf_yes _ _ _ _ hv).mono ?_; rintro e w' ⟨rfl, rfl⟩) | (go_at_call 14; refine (DateOf_at _ _ _ _ _ hp HP).mono ?_; rintro e w' ⟨rfl, rfl⟩) | (go_at_call 15; refine (GoodMonth_any _ _ _).mono ?_; rintro e w' ⟨rfl, rfl⟩) | (go_at_call 16; refine (MonthDays_any _ _ _ a1 a3 a4).mono ?_; rintro e w' ⟨rfl, rfl⟩))
      go_ret
      exact ⟨by simp, Grown.refl _⟩

set_option maxHeartbeats 400000 in
theorem civilTells_out (y m d n : Int) (w : World) (hT : Tab w) (H : Hid (n < 0 ∨ 3652058 < n)) :
    Calls Tryd.prog 3 #[.int .i64 y, .int .i64 m, .int .i64 d, .int .i64 n] w fun e w' => e = .returned (.bool true) ∧ Grown w w' := by
  cases hg : gym y m
  · have hv : vld y m d = false := by
      cases hv : vld y m d
      · rfl
      · obtain ⟨a1, a2, a3, a4, _, _⟩ := vld_open hv
        rw [gym_of a1 a2 a3 a4] at hg; exact hg
    go_enter Tryd.func3, Tryd.ntmps3
    go_wp2_with (first | (go_at_call 9; refine (Length_no _ _ _ hg).mono ?_; rintro e w' ⟨rfl, rfl⟩) | (go_at_call 10; refine (Days_no _ _ _ _ hT hv).mono ?_; rintro e w' ⟨rfl, rfl⟩) | (go_at_call 11; refine (Date_no _ _ H.out).mono ?_; rintro e w' ⟨rfl, rfl⟩) | (go_at_call 12; refine (Weekday_no _ _ H.out).mono ?_; rintro e w' ⟨rfl, rfl⟩) | (go_at_call 13; refine (DayOf_no _ _ _ _ hv).mono ?_; rintro e w' ⟨rfl, rfl⟩) | (go_at_call 14; refine (DateOf_no _ _ H.out).mono ?_; rintro e w' ⟨rfl, rfl⟩) | (go_at_call 15; refine (GoodMonth_any _ _ _).mono ?_; rintro e w' ⟨rfl, rfl⟩))
    go_ret
    exact ⟨rfl, Grown.refl _⟩
  · obtain ⟨a1, a2, a3, a4⟩ := gym_open hg
    cases hv : vld y m d
    · go_enter Tryd.func3, Tryd.ntmps3
      go_wp2_with (first | (go_at_call 9; refine (Length_yes _ _ _ hT hg).mono ?_; rintro e w' ⟨rfl, rfl⟩) | (go_at_call 10; refine (Days_no _ _ _ _ hT hv).mono ?_; rintro e w' ⟨rfl, rfl⟩) | (go_at_call 11; refine (Date_no _ _ H.out).mono ?_; rintro e w' ⟨rfl, rfl⟩) | (go_at_call 12; refine (Weekday_no _ _ H.out).mono ?_; rintro e w' ⟨rfl, rfl⟩) | (go_at_call 13; refine (DayOf_no _ _ _ _ hv).mono ?_; rintro e w' ⟨rfl, rfl⟩) | (go_at_call 14; refine (DateOf_no _ _ H.out).mono ?_; rintro e w' ⟨rfl, rfl⟩) | (go_at_call 15; refine (GoodMonth_any _ _ _).mono ?_; rintro e w' ⟨rfl, rfl⟩) | (go_at_call 16; refine (MonthDays_any _ _ _ a1 a3 a4).mono ?_; rintro e w' ⟨rfl, rfl⟩))
      go_ret
      exact ⟨by simp, Grown.refl _⟩
    · go_enter Tryd.func3, Tryd.ntmps3
      go_wp2_with (first | (go_at_call 9; refine (Length_yes _ _ _ hT hg).mono ?_; rintro e w' ⟨rfl, rfl⟩) | (go_at_call 10; refine (Days_yes _ _ _ _ hT hv).mono ?_; rintro e w' ⟨rfl, rfl⟩) | (go_at_call 11; refine (Date_no _ _ H.out).mono ?_; rintro e w' ⟨rfl, rfl⟩) | (go_at_call 12; refine (Weekday_no _ _ H.out).mono ?_; rintro e w' ⟨rfl, rfl⟩) | (go_at_call 13; refine (DayOf_yes _ _ _ _ hv).mono ?_; rintro e w' ⟨rfl, rfl⟩) | (go_at_call 14; refine (DateOf_no _ _ H.out).mono ?_; rintro e w' ⟨rfl, rfl⟩) | (go_at_call 15; refine (GoodMonth_any _ _ _).mono ?_; rintro e w' ⟨rfl, rfl⟩) | (go_at_call 16; refine (MonthDays_any _ _ _ a1 a3 a4).mono ?_; rintro e w' ⟨rfl, rfl⟩))
      go_ret
      exact ⟨by simp, Grown.refl _⟩

theorem civilTells_walk (y m d n : Int) (w : World) (hT : Tab w) :
    Calls Tryd.prog 3 #[.int .i64 y, .int .i64 m, .int .i64 d, .int .i64 n] w fun e w' => e = .returned (.bool true) ∧ Grown w w' := by
  rcases (show (n < 0 ∨ 3652058 < n) ∨ (0 ≤ n ∧ n ≤ 3652058) by omega) with h | ⟨h1, h2⟩
  · exact civilTells_out y m d n w hT h
  · obtain ⟨p, q, r, hp, HP⟩ := date_ex h1 h2
    exact civilTells_in y m d n w hT p q r hp HP h1 h2
end Go.Proofs.YtiocpkpnppgnoaaDoor
