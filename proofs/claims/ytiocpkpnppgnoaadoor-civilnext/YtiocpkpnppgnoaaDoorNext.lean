/- CivilNext answers true for every number: the walk over the law's own text, out of the contracts. -/
import Derived.Test.YtiocpkpnppgnoaaDoorAlive
import Derived.Test.YtiocpkpnppgnoaaDoorGood
import Derived.OpenShut
namespace Go.Proofs.YtiocpkpnppgnoaaDoor
open Go.RowKit Cal

set_option maxHeartbeats 400000 in
theorem civilNext_nn (n : Int) (w : World) (hT : Tab w) (H : Hid (n < 0 ∨ 3652058 < n)) (h : n < 0 ∧ -9223372036854775808 ≤ n ∨ 3652058 < n ∧ n < 9223372036854775807) (H1 : Hid (n + 1 < 0 ∨ 3652058 < n + 1)) :
    Calls Tryd.prog 6 #[.int .i64 n] w fun e w' => e = .returned (.bool true) ∧ Grown w w' := by
  rcases h with ⟨h, h'⟩ | ⟨h, h'⟩
  all_goals
    go_enter Tryd.func6, Tryd.ntmps6
    go_wp2_with (go_at_call 23; refine (days_any _ hT).mono ?_; rintro e w' ⟨rfl, rfl⟩)
    refine (Date_no _ _ H.out).mono ?_
    rintro e w' ⟨rfl, rfl⟩
    go_wp2_with fail
    refine (Date_no _ _ H1.out).mono ?_
    rintro e w' ⟨rfl, rfl⟩
    go_wp2_with fail
    go_ret
    exact ⟨rfl, Grown.refl _⟩

set_option maxHeartbeats 400000 in
theorem civilNext_top (n : Int) (w : World) (hT : Tab w) (H : Hid (n < 0 ∨ 3652058 < n)) (h : 9223372036854775806 < n) (H1 : Hid (wrap64 (n + 1) < 0 ∨ 3652058 < wrap64 (n + 1))) :
    Calls Tryd.prog 6 #[.int .i64 n] w fun e w' => e = .returned (.bool true) ∧ Grown w w' := by
  go_enter Tryd.func6, Tryd.ntmps6
  go_wp2_with (go_at_call 23; refine (days_any _ hT).mono ?_; rintro e w' ⟨rfl, rfl⟩)
  refine (Date_no _ _ H.out).mono ?_
  rintro e w' ⟨rfl, rfl⟩
  go_wp2_with fail
  refine (Date_no _ _ H1.out).mono ?_
  rintro e w' ⟨rfl, rfl⟩
  go_wp2_with fail
  go_ret
  exact ⟨rfl, Grown.refl _⟩

set_option maxHeartbeats 400000 in
theorem civilNext_first (n : Int) (w : World) (hT : Tab w) (H : Hid (n < 0 ∨ 3652058 < n)) (h : n < 0) (h' : -1 ≤ n) (hv : vld 1 1 1 = true) (H1 : Hid (num 1 1 1 = n + 1)) :
    Calls Tryd.prog 6 #[.int .i64 n] w fun e w' => e = .returned (.bool true) ∧ Grown w w' := by
  go_enter Tryd.func6, Tryd.ntmps6
  go_wp2_with (go_at_call 23; refine (days_any _ hT).mono ?_; rintro e w' ⟨rfl, rfl⟩)
  refine (Date_no _ _ H.out).mono ?_
  rintro e w' ⟨rfl, rfl⟩
  go_wp2_with fail
  refine (Date_at _ _ _ _ _ hT hv H1).mono ?_
  rintro e w' ⟨rfl, rfl⟩
  go_wp2_with fail
  go_ret
  exact ⟨rfl, Grown.refl _⟩

set_option maxHeartbeats 400000 in
theorem civilNext_last (n y m d : Int) (w : World) (hT : Tab w) (hv : vld y m d = true) (H : Hid (num y m d = n)) (h : 3652058 ≤ n) (h' : n ≤ 3652058) (H1 : Hid (n + 1 < 0 ∨ 3652058 < n + 1)) :
    Calls Tryd.prog 6 #[.int .i64 n] w fun e w' => e = .returned (.bool true) ∧ Grown w w' := by
  have hq : (n == 3652058) = true := beq_iff_eq.2 (by omega)
  go_enter Tryd.func6, Tryd.ntmps6
  go_wp2_with (go_at_call 23; refine (days_any _ hT).mono ?_; rintro e w' ⟨rfl, rfl⟩)
  refine (Date_at _ _ _ _ _ hT hv H).mono ?_
  rintro e w' ⟨rfl, rfl⟩
  go_wp2_with fail
  refine (Date_no _ _ H1.out).mono ?_
  rintro e w' ⟨rfl, rfl⟩
  go_wp2_with fail
  go_ret
  exact ⟨rfl, Grown.refl _⟩

set_option maxHeartbeats 400000 in
theorem civilNext_in (n y m d y' m' d' : Int) (w : World) (hT : Tab w) (hv : vld y m d = true) (H : Hid (num y m d = n)) (h : 0 ≤ n) (h' : n < 3652058) (hv' : vld y' m' d' = true) (H1 : Hid (num y' m' d' = n + 1))
    (k : d < dim y m ∧ Hid (y' = y ∧ m' = m ∧ d' = d + 1) ∨ dim y m ≤ d ∧ m < 12 ∧ Hid (y' = y ∧ m' = m + 1 ∧ d' = 1) ∨ dim y m ≤ d ∧ 12 ≤ m ∧ Hid (y' = y + 1 ∧ m' = 1 ∧ d' = 1)) :
    Calls Tryd.prog 6 #[.int .i64 n] w fun e w' => e = .returned (.bool true) ∧ Grown w w' := by
  obtain ⟨a1, a2, a3, a4, a5, a6⟩ := vld_open hv
  have hg := gym_of a1 a2 a3 a4
  have hd := dim_bd y m
  go_enter Tryd.func6, Tryd.ntmps6
  go_wp2_with (go_at_call 23; refine (days_any _ hT).mono ?_; rintro e w' ⟨rfl, rfl⟩)
  refine (Date_at _ _ _ _ _ hT hv H).mono ?_
  rintro e w' ⟨rfl, rfl⟩
  go_wp2_with fail
  refine (Date_at _ _ _ _ _ hT hv' H1).mono ?_
  rintro e w' ⟨rfl, rfl⟩
  go_wp2_with fail
  refine (Length_yes _ _ _ hT hg).mono ?_
  rintro e w' ⟨rfl, rfl⟩
  go_wp2_with fail
  refine (good3 _ _).mono ?_
  rintro e w1 ⟨rfl, rfl⟩
  rcases k with ⟨k1, k⟩ | ⟨k1, k2, k⟩ | ⟨k1, k2, k⟩
  · obtain ⟨e1, e2, e3⟩ := k.out
    subst e1; subst e2; subst e3
    go_wp2_with fail
    go_ret
    exact ⟨by simp, (Grown.refl _).alloc _ _⟩
  · have hm : (m == 12) = false := beq_eq_false_iff_ne.2 (by omega)
    obtain ⟨e1, e2, e3⟩ := k.out
    subst e1; subst e2; subst e3
    go_wp2_with fail
    go_ret
    exact ⟨by simp, (Grown.refl _).alloc _ _⟩
  · have hm : (m == 12) = true := beq_iff_eq.2 (by omega)
    obtain ⟨e1, e2, e3⟩ := k.out
    subst e1; subst e2; subst e3
    go_wp2_with fail
    go_ret
    exact ⟨by simp, (Grown.refl _).alloc _ _⟩

theorem civilNext_walk (n : Int) (w : World) (hT : Tab w) (wn : (Lit.int .i64 n).wf = true) :
    Calls Tryd.prog 6 #[.int .i64 n] w fun e w' => e = .returned (.bool true) ∧ Grown w w' := by
  have b : -9223372036854775808 ≤ n ∧ n ≤ 9223372036854775807 := bounds_i64 wn
  rcases (show n < -1 ∨ n = -1 ∨ (0 ≤ n ∧ n < 3652058) ∨ n = 3652058 ∨ (3652058 < n ∧ n < 9223372036854775807) ∨ n = 9223372036854775807 by omega) with h | h | ⟨h, h'⟩ | h | ⟨h, h'⟩ | h
  · exact civilNext_nn n w hT (show _ ∨ _ by omega) (by omega) (show _ ∨ _ by omega)
  · exact civilNext_first n w hT (show _ ∨ _ by omega) (by omega) (by omega) (by decide) (show num 1 1 1 = n + 1 by rw [h]; decide)
  · obtain ⟨y, m, d, hv, hn⟩ := date_ex (show 0 ≤ n by omega) (by omega)
    rcases Int.lt_or_le d (dim y m) with l | l
    · have q := next_in hv l
      exact civilNext_in n y m d y m (d + 1) w hT hv hn h h' q.1 (show _ = _ by rw [q.2, hn]) (.inl ⟨l, ⟨rfl, rfl, rfl⟩⟩)
    · rcases Int.lt_or_le m 12 with l' | l'
      · have q := next_month hv l l'
        exact civilNext_in n y m d y (m + 1) 1 w hT hv hn h h' q.1 (show _ = _ by rw [q.2, hn]) (.inr (.inl ⟨l, l', ⟨rfl, rfl, rfl⟩⟩))
      · have q := next_year hv l l'
        exact civilNext_in n y m d (y + 1) 1 1 w hT hv hn h h' (next_vld hv l l' (by omega)) (show _ = _ by rw [q, hn]) (.inr (.inr ⟨l, l', ⟨rfl, rfl, rfl⟩⟩))
  · obtain ⟨y, m, d, hv, hn⟩ := date_ex (show 0 ≤ n by omega) (by omega)
    exact civilNext_last n y m d w hT hv hn (by omega) (by omega) (show _ ∨ _ by omega)
  · exact civilNext_nn n w hT (show _ ∨ _ by omega) (by omega) (show _ ∨ _ by omega)
  · exact civilNext_top n w hT (show _ ∨ _ by omega) (by omega) (show _ ∨ _ by unfold wrap64; omega)
end Go.Proofs.YtiocpkpnppgnoaaDoor
