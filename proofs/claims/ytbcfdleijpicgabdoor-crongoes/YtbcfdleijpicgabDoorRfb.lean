/- What the reference's functions on sets of numbers and on times answer: contracts, each proved by a walk over its own text. -/
import Derived.Test.YtbcfdleijpicgabDoorChk
import Derived.Test.YtbcfdleijpicgabDoorNxt
import Derived.Test.YtbcfdleijpicgabDoorRef
import Derived.Test.YtbcfdleijpicgabDoorRmb
namespace Go.Proofs.YtbcfdleijpicgabDoor
open Go.RowKit Cal Crn

theorem rem_two (s n : Nat) : ((s : Int) / 2 ^ n % 2 == 1) = s.testBit n := by
  rw [div_cast, Nat.testBit_eq_decide_div_mod_eq]
  generalize s / 2 ^ n = q
  rcases (show q % 2 = 0 ∨ q % 2 = 1 by omega) with e | e
  · rw [e, show (q : Int) % 2 = 0 by omega]; rfl
  · rw [e, show (q : Int) % 2 = 1 by omega]; rfl

set_option maxHeartbeats 400000 in
theorem In_nat (s n : Nat) (w : World) (_hs : s < 18446744073709551616) (hn : n < 64) :
    Calls Tryd.prog 21 #[.int .u64 s, .int .i64 n] w fun e w' => e = .returned (.bool (s.testBit n)) ∧ w' = w := by
  go_enter Tryd.func21, Tryd.ntmps21
  go_wp2
  go_ret
  exact ⟨ret_bool (rem_two s n), rfl⟩
theorem In_yes (s : Nat) (n : Int) (w : World) (hs : s < 18446744073709551616) (h0 : 0 ≤ n) (hn : n < 64) :
    Calls Tryd.prog 21 #[.int .u64 s, .int .i64 n] w fun e w' => e = .returned (.bool (hasB s n)) ∧ w' = w := by
  have h := In_nat s n.toNat w hs (by omega)
  rw [show ((n.toNat : Nat) : Int) = n by omega] at h
  exact h

set_option maxHeartbeats 400000 in
theorem FullSet_yes (s : Nat) (lo hi : Int) (w : World) (hs : s < 18446744073709551616) (h0 : 0 ≤ lo) (h1 : hi < 64) (h2 : lo ≤ hi + 1) (hf : Full s lo hi) :
    Calls Tryd.prog 29 #[.int .u64 s, .int .i64 lo, .int .i64 hi] w fun e w' => e = .returned (.bool true) ∧ w' = w := by
  go_enter Tryd.func29, Tryd.ntmps29
  go_wp2
  go_loop [7] (fun i => ∃ n : Int, i = .int .i64 n ∧ lo ≤ n ∧ n ≤ hi + 1) (fun i => (65 - intOf i).toNat)
  case atStart => exact ⟨lo, rfl, by omega, by omega⟩
  case round =>
    obtain ⟨n, rfl, g1, g2⟩ := hrel
    by_cases hn : n ≤ hi
    · have hb := hf n g1 hn
      go_wp2_with (go_at_call 21; refine (In_yes _ _ _ (by omega) (by omega) (by omega)).mono ?_; rintro e w' ⟨rfl, rfl⟩)
      go_round
      case rel => exact ⟨n + 1, by go_num, by omega, by omega⟩
      case measure => simp [intOf]; omega
    · go_wp2
      go_ret
      exact ⟨rfl, rfl⟩

set_option maxHeartbeats 400000 in
theorem FullSet_no (s : Nat) (lo hi : Int) (w : World) (hs : s < 18446744073709551616) (h0 : 0 ≤ lo) (h1 : hi < 64) (h2 : lo ≤ hi + 1) (hf : ¬ Full s lo hi) :
    Calls Tryd.prog 29 #[.int .u64 s, .int .i64 lo, .int .i64 hi] w fun e w' => e = .returned (.bool false) ∧ w' = w := by
  go_enter Tryd.func29, Tryd.ntmps29
  go_wp2
  go_loop [7] (fun i => ∃ n : Int, i = .int .i64 n ∧ lo ≤ n ∧ n ≤ hi + 1 ∧ Hid (∀ u, lo ≤ u → u < n → hasB s u = true)) (fun i => (65 - intOf i).toNat)
  case atStart => exact ⟨lo, rfl, by omega, by omega, fun u a b => by omega⟩
  case round =>
    obtain ⟨n, rfl, g1, g2, g3⟩ := hrel
    by_cases hn : n ≤ hi
    · by_cases hb : hasB s n = true
      · go_wp2_with (go_at_call 21; refine (In_yes _ _ _ (by omega) (by omega) (by omega)).mono ?_; rintro e w' ⟨rfl, rfl⟩)
        go_round
        case rel =>
          refine ⟨n + 1, by go_num, by omega, by omega, fun u a b => ?_⟩
          rcases (show u < n ∨ u = n by omega) with l | l
          · exact g3.out u a l
          · rw [l]; exact hb
        case measure => simp [intOf]; omega
      · have hb' : hasB s n = false := by simpa using hb
        clear hb
        go_wp2_with (go_at_call 21; refine (In_yes _ _ _ (by omega) (by omega) (by omega)).mono ?_; rintro e w' ⟨rfl, rfl⟩)
        go_ret
        exact ⟨rfl, rfl⟩
    · exact (hf fun u a b => g3.out u a (by omega)).elim

set_option maxHeartbeats 1000000 in
theorem DayFits_month (c : Cr) (hc : okB c = true) (n : Int) (w : World) (h1 : 0 ≤ n) (h2 : n ≤ 3652058) (hm : hasB c.mo (mth n) = false) :
    Calls Tryd.prog 22 #[.agg #[.int .u64 c.mi, .int .u64 c.ho, .int .u64 c.dm, .int .u64 c.mo, .int .u64 c.dw], .int .i64 n] w fun e w' => e = .returned (.bool (dmB c n)) ∧ Below w.heap.size w w' := by
  obtain ⟨_, _, _, _, o1, o2, _, o3, o4, _, o5, o6⟩ := ok_open hc
  obtain ⟨hv, hn⟩ := date_of h1 h2
  have HN : Hid (num (yr n) (mth n) (dy n) = n) := hn
  clear hn
  obtain ⟨_, _, b1, b2, b3, b4⟩ := vld_open hv
  have b5 := dim_bd (yr n) (mth n)
  have HD : Hid (dmB c n = (hasB c.mo (mth n) && fitB c (dy n) ((n + 1) % 7))) := rfl
  go_enter Tryd.func22, Tryd.ntmps22
  go_wp2_with (first | (go_at_call 28; refine (DateOf_at _ _ _ _ _ hv HN).mono ?_; rintro e w' ⟨rfl, rfl⟩) | (go_at_call 21; refine (In_yes _ _ _ (by omega) (by omega) (by omega)).mono ?_; rintro e w' ⟨rfl, rfl⟩))
  go_ret
  exact ⟨ret_bool (by rw [HD.out, hm]; rfl), below_box w _⟩

set_option maxHeartbeats 1000000 in
theorem DayFits_dom (c : Cr) (hc : okB c = true) (n : Int) (w : World) (h1 : 0 ≤ n) (h2 : n ≤ 3652058) (hm : hasB c.mo (mth n) = true) (hf : Full c.dm 1 31) :
    Calls Tryd.prog 22 #[.agg #[.int .u64 c.mi, .int .u64 c.ho, .int .u64 c.dm, .int .u64 c.mo, .int .u64 c.dw], .int .i64 n] w fun e w' => e = .returned (.bool (dmB c n)) ∧ Below w.heap.size w w' := by
  obtain ⟨_, _, _, _, o1, o2, _, o3, o4, _, o5, o6⟩ := ok_open hc
  obtain ⟨hv, hn⟩ := date_of h1 h2
  have HN : Hid (num (yr n) (mth n) (dy n) = n) := hn
  clear hn
  obtain ⟨_, _, b1, b2, b3, b4⟩ := vld_open hv
  have b5 := dim_bd (yr n) (mth n)
  have HF : Hid (fitB c (dy n) ((n + 1) % 7) = hasB c.dw ((n + 1) % 7)) := by show _ = _; unfold fitB; rw [if_pos ((full_dm hc).1 hf)]
  have HD : Hid (dmB c n = (hasB c.mo (mth n) && fitB c (dy n) ((n + 1) % 7))) := rfl
  go_enter Tryd.func22, Tryd.ntmps22
  go_wp2_with (first | (go_at_call 28; refine (DateOf_at _ _ _ _ _ hv HN).mono ?_; rintro e w' ⟨rfl, rfl⟩) | (go_at_call 21; refine (In_yes _ _ _ (by omega) (by omega) (by omega)).mono ?_; rintro e w' ⟨rfl, rfl⟩))
  go_quiet ((go_at_call 21; exact Calls.quiet_of_same (In_yes _ _ _ (by omega) (by omega) (by omega))))
  go_wp2_with (go_at_call 29; first | (refine (FullSet_yes _ _ _ _ (by omega) (by omega) (by omega) (by omega) (by assumption)).mono ?_; rintro e w' ⟨rfl, rfl⟩) | (refine (FullSet_no _ _ _ _ (by omega) (by omega) (by omega) (by omega) (by assumption)).mono ?_; rintro e w' ⟨rfl, rfl⟩))
  go_ret
  exact ⟨ret_bool (by rw [HD.out, hm, HF.out, Bool.true_and]), below_draws (below_box w _) _⟩

set_option maxHeartbeats 1000000 in
theorem DayFits_dow (c : Cr) (hc : okB c = true) (n : Int) (w : World) (h1 : 0 ≤ n) (h2 : n ≤ 3652058) (hm : hasB c.mo (mth n) = true) (hf : ¬ Full c.dm 1 31) (hg : Full c.dw 0 6) :
    Calls Tryd.prog 22 #[.agg #[.int .u64 c.mi, .int .u64 c.ho, .int .u64 c.dm, .int .u64 c.mo, .int .u64 c.dw], .int .i64 n] w fun e w' => e = .returned (.bool (dmB c n)) ∧ Below w.heap.size w w' := by
  obtain ⟨_, _, _, _, o1, o2, _, o3, o4, _, o5, o6⟩ := ok_open hc
  obtain ⟨hv, hn⟩ := date_of h1 h2
  have HN : Hid (num (yr n) (mth n) (dy n) = n) := hn
  clear hn
  obtain ⟨_, _, b1, b2, b3, b4⟩ := vld_open hv
  have b5 := dim_bd (yr n) (mth n)
  have HF : Hid (fitB c (dy n) ((n + 1) % 7) = hasB c.dm (dy n)) := by show _ = _; unfold fitB; rw [if_neg (fun e => hf ((full_dm hc).2 e)), if_pos ((full_dw hc).1 hg)]
  have HD : Hid (dmB c n = (hasB c.mo (mth n) && fitB c (dy n) ((n + 1) % 7))) := rfl
  go_enter Tryd.func22, Tryd.ntmps22
  go_wp2_with (first | (go_at_call 28; refine (DateOf_at _ _ _ _ _ hv HN).mono ?_; rintro e w' ⟨rfl, rfl⟩) | (go_at_call 21; refine (In_yes _ _ _ (by omega) (by omega) (by omega)).mono ?_; rintro e w' ⟨rfl, rfl⟩))
  go_quiet ((go_at_call 21; exact Calls.quiet_of_same (In_yes _ _ _ (by omega) (by omega) (by omega))))
  go_wp2_with (go_at_call 29; first | (refine (FullSet_yes _ _ _ _ (by omega) (by omega) (by omega) (by omega) (by assumption)).mono ?_; rintro e w' ⟨rfl, rfl⟩) | (refine (FullSet_no _ _ _ _ (by omega) (by omega) (by omega) (by omega) (by assumption)).mono ?_; rintro e w' ⟨rfl, rfl⟩))
  go_ret
  exact ⟨ret_bool (by rw [HD.out, hm, HF.out, Bool.true_and]), below_draws (below_box w _) _⟩

set_option maxHeartbeats 1000000 in
theorem DayFits_in (c : Cr) (hc : okB c = true) (n : Int) (w : World) (h1 : 0 ≤ n) (h2 : n ≤ 3652058) (hm : hasB c.mo (mth n) = true) (hf : ¬ Full c.dm 1 31) (hg : ¬ Full c.dw 0 6) (hb : hasB c.dm (dy n) = true) :
    Calls Tryd.prog 22 #[.agg #[.int .u64 c.mi, .int .u64 c.ho, .int .u64 c.dm, .int .u64 c.mo, .int .u64 c.dw], .int .i64 n] w fun e w' => e = .returned (.bool (dmB c n)) ∧ Below w.heap.size w w' := by
  obtain ⟨_, _, _, _, o1, o2, _, o3, o4, _, o5, o6⟩ := ok_open hc
  obtain ⟨hv, hn⟩ := date_of h1 h2
  have HN : Hid (num (yr n) (mth n) (dy n) = n) := hn
  clear hn
  obtain ⟨_, _, b1, b2, b3, b4⟩ := vld_open hv
  have b5 := dim_bd (yr n) (mth n)
  have HF : Hid (fitB c (dy n) ((n + 1) % 7) = true) := by show _ = _; unfold fitB; rw [if_neg (fun e => hf ((full_dm hc).2 e)), if_neg (fun e => hg ((full_dw hc).2 e)), hb]; rfl
  have HD : Hid (dmB c n = (hasB c.mo (mth n) && fitB c (dy n) ((n + 1) % 7))) := rfl
  go_enter Tryd.func22, Tryd.ntmps22
  go_wp2_with (first | (go_at_call 28; refine (DateOf_at _ _ _ _ _ hv HN).mono ?_; rintro e w' ⟨rfl, rfl⟩) | (go_at_call 21; refine (In_yes _ _ _ (by omega) (by omega) (by omega)).mono ?_; rintro e w' ⟨rfl, rfl⟩))
  go_quiet ((go_at_call 21; exact Calls.quiet_of_same (In_yes _ _ _ (by omega) (by omega) (by omega))))
  go_wp2_with (go_at_call 29; first | (refine (FullSet_yes _ _ _ _ (by omega) (by omega) (by omega) (by omega) (by assumption)).mono ?_; rintro e w' ⟨rfl, rfl⟩) | (refine (FullSet_no _ _ _ _ (by omega) (by omega) (by omega) (by omega) (by assumption)).mono ?_; rintro e w' ⟨rfl, rfl⟩))
  go_ret
  exact ⟨ret_bool (by rw [HD.out, hm, HF.out, Bool.true_and]), below_draws (below_box w _) _⟩

set_option maxHeartbeats 1000000 in
theorem DayFits_or (c : Cr) (hc : okB c = true) (n : Int) (w : World) (h1 : 0 ≤ n) (h2 : n ≤ 3652058) (hm : hasB c.mo (mth n) = true) (hf : ¬ Full c.dm 1 31) (hg : ¬ Full c.dw 0 6) (hb : hasB c.dm (dy n) = false) :
    Calls Tryd.prog 22 #[.agg #[.int .u64 c.mi, .int .u64 c.ho, .int .u64 c.dm, .int .u64 c.mo, .int .u64 c.dw], .int .i64 n] w fun e w' => e = .returned (.bool (dmB c n)) ∧ Below w.heap.size w w' := by
  obtain ⟨_, _, _, _, o1, o2, _, o3, o4, _, o5, o6⟩ := ok_open hc
  obtain ⟨hv, hn⟩ := date_of h1 h2
  have HN : Hid (num (yr n) (mth n) (dy n) = n) := hn
  clear hn
  obtain ⟨_, _, b1, b2, b3, b4⟩ := vld_open hv
  have b5 := dim_bd (yr n) (mth n)
  have HF : Hid (fitB c (dy n) ((n + 1) % 7) = hasB c.dw ((n + 1) % 7)) := by show _ = _; unfold fitB; rw [if_neg (fun e => hf ((full_dm hc).2 e)), if_neg (fun e => hg ((full_dw hc).2 e)), hb]; rfl
  have HD : Hid (dmB c n = (hasB c.mo (mth n) && fitB c (dy n) ((n + 1) % 7))) := rfl
  go_enter Tryd.func22, Tryd.ntmps22
  go_wp2_with (first | (go_at_call 28; refine (DateOf_at _ _ _ _ _ hv HN).mono ?_; rintro e w' ⟨rfl, rfl⟩) | (go_at_call 21; refine (In_yes _ _ _ (by omega) (by omega) (by omega)).mono ?_; rintro e w' ⟨rfl, rfl⟩))
  go_quiet ((go_at_call 21; exact Calls.quiet_of_same (In_yes _ _ _ (by omega) (by omega) (by omega))))
  go_wp2_with (go_at_call 29; first | (refine (FullSet_yes _ _ _ _ (by omega) (by omega) (by omega) (by omega) (by assumption)).mono ?_; rintro e w' ⟨rfl, rfl⟩) | (refine (FullSet_no _ _ _ _ (by omega) (by omega) (by omega) (by omega) (by assumption)).mono ?_; rintro e w' ⟨rfl, rfl⟩))
  go_ret
  exact ⟨ret_bool (by rw [HD.out, hm, HF.out, Bool.true_and]), below_draws (below_box w _) _⟩

theorem DayFits_any (c : Cr) (hc : okB c = true) (n : Int) (w : World) (h1 : 0 ≤ n) (h2 : n ≤ 3652058) :
    Calls Tryd.prog 22 #[.agg #[.int .u64 c.mi, .int .u64 c.ho, .int .u64 c.dm, .int .u64 c.mo, .int .u64 c.dw], .int .i64 n] w fun e w' => e = .returned (.bool (dmB c n)) ∧ Below w.heap.size w w' := by
  by_cases hm : hasB c.mo (mth n) = true
  · by_cases hf : Full c.dm 1 31
    · exact DayFits_dom c hc n w h1 h2 hm hf
    · by_cases hg : Full c.dw 0 6
      · exact DayFits_dow c hc n w h1 h2 hm hf hg
      · by_cases hb : hasB c.dm (dy n) = true
        · exact DayFits_in c hc n w h1 h2 hm hf hg hb
        · exact DayFits_or c hc n w h1 h2 hm hf hg (by simpa using hb)
  · exact DayFits_month c hc n w h1 h2 (by simpa using hm)
end Go.Proofs.YtbcfdleijpicgabDoor
