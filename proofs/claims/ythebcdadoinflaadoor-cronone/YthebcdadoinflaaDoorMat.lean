/- What the functions of package cron that ask whether a time matches answer, and the least minute of a day that matches: contracts, each proved by a walk over its own text. -/
import Derived.Test.YthebcdadoinflaaDoorBit
namespace Go.Proofs.YthebcdadoinflaaDoor
open Go.RowKit Cal Crn

set_option maxHeartbeats 400000 in
theorem dayMatches_any (c : Cr) (hc : okB c = true) (n : Int) (w : World) (hT : Tb w) (h1 : 0 ≤ n) (h2 : n ≤ 3652058) :
    Calls Tryd.prog 35 #[.agg #[.int .u64 c.mi, .int .u64 c.ho, .int .u64 c.dm, .int .u64 c.mo, .int .u64 c.dw], .int .i64 n] w fun e w' => e = .returned (.bool (dmB c n)) ∧ Below w.heap.size w w' := by
  obtain ⟨_, _, _, _, _, _, _, o1, o2, _, _, _⟩ := ok_open hc
  obtain ⟨hv, hn⟩ := date_of h1 h2
  have HN : Hid (num (yr n) (mth n) (dy n) = n) := hn
  clear hn
  obtain ⟨_, _, b1, b2, b3, b4⟩ := vld_open hv
  have b5 := dim_bd (yr n) (mth n)
  unfold dmB
  by_cases e3 : hasB c.mo (mth n) = true
  · go_enter Tryd.func35, Tryd.ntmps35
    go_wp2_with (first | (go_at_call 49; refine (Date_at _ _ _ _ _ (hT.alloc _).m hv HN).mono ?_; rintro e w' ⟨rfl, rfl⟩) | (go_at_call 50; refine (Weekday_yes _ _ (by omega) (by omega)).mono ?_; rintro e w' ⟨rfl, rfl⟩) | (go_at_call 51; refine (has_at _ _ _ (by omega) (by omega) (by omega)).mono ?_; rintro e w' ⟨rfl, rfl⟩))
    refine (dayFits_any c hc _ _ _ (by omega) (by omega) (by omega) (by omega)).mono ?_
    rintro e w' ⟨rfl, hb⟩
    go_wp2
    go_ret
    exact ⟨ret_bool (by rw [e3]; rfl), (below_box w _).trans (hb.mono (by simp))⟩
  · have e3' : hasB c.mo (mth n) = false := by simpa using e3
    clear e3
    go_enter Tryd.func35, Tryd.ntmps35
    go_wp2_with (first | (go_at_call 49; refine (Date_at _ _ _ _ _ (hT.alloc _).m hv HN).mono ?_; rintro e w' ⟨rfl, rfl⟩) | (go_at_call 50; refine (Weekday_yes _ _ (by omega) (by omega)).mono ?_; rintro e w' ⟨rfl, rfl⟩) | (go_at_call 51; refine (has_at _ _ _ (by omega) (by omega) (by omega)).mono ?_; rintro e w' ⟨rfl, rfl⟩))
    go_ret
    exact ⟨ret_bool (by rw [e3']; rfl), below_box _ _⟩

set_option maxHeartbeats 400000 in
theorem firstMinute_any (c : Cr) (hc : okB c = true) (w : World) (hT : Tb w) :
    Calls Tryd.prog 38 #[.agg #[.int .u64 c.mi, .int .u64 c.ho, .int .u64 c.dm, .int .u64 c.mo, .int .u64 c.dw]] w fun e w' => e = .returned (.int .i64 ((Lib.ctz 64 c.ho : Int) * 60 + Lib.ctz 64 c.mi)) ∧ Below w.heap.size w w' := by
  obtain ⟨o1, o2, o3, o4, _⟩ := ok_open hc
  have l1 := ctz_lt (x := c.mi) (by omega) (by omega)
  have l2 := ctz_lt (x := c.ho) (by omega) (by omega)
  go_enter Tryd.func38, Tryd.ntmps38
  go_wp2
  go_quiet ((go_at_call 25; exact Calls.quiet_of_same (first_any _ _ (hT.alloc _).z (by omega) (by omega))))
  go_wp2
  go_ret
  exact ⟨rfl, below_draws (below_box w _) _⟩

set_option maxHeartbeats 800000 in
theorem minuteFrom_here (c : Cr) (hc : okB c = true) (x : Int) (h m : Nat) (w : World) (hT : Tb w) (h0 : 0 ≤ x) (h1 : x < 1440) (e1 : x / 60 = h) (e2 : x % 60 = m) (hb : hasB c.ho h = true) (hn : c.mi / 2 ^ m ≠ 0) :
    Calls Tryd.prog 36 #[.agg #[.int .u64 c.mi, .int .u64 c.ho, .int .u64 c.dm, .int .u64 c.mo, .int .u64 c.dw], .int .i64 x] w fun e w' => e = .returned (.tuple #[.int .i64 (h * 60 + m + Lib.ctz 64 (c.mi / 2 ^ m)), .bool true]) ∧ Below w.heap.size w w' := by
  obtain ⟨o1, o2, o3, o4, _⟩ := ok_open hc
  have hl := div_lt' m o2
  have l1 := ctz_lt (x := c.mi / 2 ^ m) hn (by omega)
  have hm : m < 60 := by omega
  have hh : h < 24 := by omega
  have hz : (((c.mi : Int) / 2 ^ m) == 0) = false := by rw [div_cast]; exact nz hn
  go_enter Tryd.func36, Tryd.ntmps36
  go_wp2_with (first | (go_at_call 51; refine (has_at _ _ _ (by omega) (by omega) (by omega)).mono ?_; rintro e w' ⟨rfl, rfl⟩) | (go_at_call 25; rw [div_cast]; refine (first_any _ _ (hT.alloc _).z hn (by omega)).mono ?_; rintro e w' ⟨rfl, rfl⟩))
  go_ret2
  exact ⟨rfl, below_box _ _⟩

set_option maxHeartbeats 800000 in
theorem minuteFrom_none (c : Cr) (hc : okB c = true) (x : Int) (h m : Nat) (w : World) (h0 : 0 ≤ x) (h1 : x < 1440) (e1 : x / 60 = h) (e2 : x % 60 = m) (hn : hasB c.ho h = false ∨ c.mi / 2 ^ m = 0) (hz : c.ho / 2 ^ (h + 1) = 0) :
    Calls Tryd.prog 36 #[.agg #[.int .u64 c.mi, .int .u64 c.ho, .int .u64 c.dm, .int .u64 c.mo, .int .u64 c.dw], .int .i64 x] w fun e w' => e = .returned (.tuple #[.int .i64 0, .bool false]) ∧ Below w.heap.size w w' := by
  obtain ⟨o1, o2, o3, o4, _⟩ := ok_open hc
  have hm : m < 60 := by omega
  have hh : h < 24 := by omega
  have hz' : ((c.ho : Int) / 2 ^ (h + 1)) = 0 := by rw [div_cast, hz]; rfl
  clear hz
  by_cases hb : hasB c.ho h = true
  · have hq : c.mi / 2 ^ m = 0 := by rcases hn with e | e; (rw [hb] at e; cases e); exact e
    have hq' : ((c.mi : Int) / 2 ^ m) = 0 := by rw [div_cast, hq]; rfl
    clear hq hn
    go_enter Tryd.func36, Tryd.ntmps36
    go_wp2_with (first | (go_at_call 51; refine (has_at _ _ _ (by omega) (by omega) (by omega)).mono ?_; rintro e w' ⟨rfl, rfl⟩))
    go_ret2
    exact ⟨rfl, below_box _ _⟩
  · have hb' : hasB c.ho h = false := by simpa using hb
    clear hb hn
    go_enter Tryd.func36, Tryd.ntmps36
    go_wp2_with (first | (go_at_call 51; refine (has_at _ _ _ (by omega) (by omega) (by omega)).mono ?_; rintro e w' ⟨rfl, rfl⟩))
    go_ret2
    exact ⟨rfl, below_box _ _⟩

set_option maxHeartbeats 800000 in
theorem minuteFrom_later (c : Cr) (hc : okB c = true) (x : Int) (h m : Nat) (w : World) (hT : Tb w) (h0 : 0 ≤ x) (h1 : x < 1440) (e1 : x / 60 = h) (e2 : x % 60 = m) (hn : hasB c.ho h = false ∨ c.mi / 2 ^ m = 0) (hz : c.ho / 2 ^ (h + 1) ≠ 0) :
    Calls Tryd.prog 36 #[.agg #[.int .u64 c.mi, .int .u64 c.ho, .int .u64 c.dm, .int .u64 c.mo, .int .u64 c.dw], .int .i64 x] w fun e w' => e = .returned (.tuple #[.int .i64 ((h + 1 + Lib.ctz 64 (c.ho / 2 ^ (h + 1))) * 60 + Lib.ctz 64 c.mi), .bool true]) ∧ Below w.heap.size w w' := by
  obtain ⟨o1, o2, o3, o4, _⟩ := ok_open hc
  have hl := div_lt' (h + 1) o4
  have l1 := ctz_lt (x := c.ho / 2 ^ (h + 1)) hz (by omega)
  have l2 := ctz_lt (x := c.mi) (by omega) (by omega)
  have hm : m < 60 := by omega
  have hh : h < 24 := by omega
  have hz' : (((c.ho : Int) / 2 ^ (h + 1)) == 0) = false := by rw [div_cast]; exact nz hz
  by_cases hb : hasB c.ho h = true
  · have hq : c.mi / 2 ^ m = 0 := by rcases hn with e | e; (rw [hb] at e; cases e); exact e
    have hq' : ((c.mi : Int) / 2 ^ m) = 0 := by rw [div_cast, hq]; rfl
    clear hq hn
    go_enter Tryd.func36, Tryd.ntmps36
    go_wp2_with (first | (go_at_call 51; refine (has_at _ _ _ (by omega) (by omega) (by omega)).mono ?_; rintro e w' ⟨rfl, rfl⟩))
    go_quiet ((go_at_call 25; first | (rw [div_cast]; exact Calls.quiet_of_same (first_any _ _ (hT.alloc _).z hz (by omega))) | exact Calls.quiet_of_same (first_any _ _ (hT.alloc _).z (by omega) (by omega))))
    go_wp2
    go_ret2
    exact ⟨rfl, below_draws (below_box w _) _⟩
  · have hb' : hasB c.ho h = false := by simpa using hb
    clear hb hn
    go_enter Tryd.func36, Tryd.ntmps36
    go_wp2_with (first | (go_at_call 51; refine (has_at _ _ _ (by omega) (by omega) (by omega)).mono ?_; rintro e w' ⟨rfl, rfl⟩))
    go_quiet ((go_at_call 25; first | (rw [div_cast]; exact Calls.quiet_of_same (first_any _ _ (hT.alloc _).z hz (by omega))) | exact Calls.quiet_of_same (first_any _ _ (hT.alloc _).z (by omega) (by omega))))
    go_wp2
    go_ret2
    exact ⟨rfl, below_draws (below_box w _) _⟩

/-- The least minute of a day from one on: told, or told that there is none. -/
theorem minuteFrom_any (c : Cr) (hc : okB c = true) (x : Int) (w : World) (hT : Tb w) (h0 : 0 ≤ x) (h1 : x < 1440) :
    Calls Tryd.prog 36 #[.agg #[.int .u64 c.mi, .int .u64 c.ho, .int .u64 c.dm, .int .u64 c.mo, .int .u64 c.dw], .int .i64 x] w fun e w' => ((∃ y, e = .returned (.tuple #[.int .i64 y, .bool true]) ∧ LeastM c x y) ∨ (e = .returned (.tuple #[.int .i64 0, .bool false]) ∧ NoM c x)) ∧ Below w.heap.size w w' := by
  have e1 : x / 60 = ((x / 60).toNat : Int) := by omega
  have e2 : x % 60 = ((x % 60).toNat : Int) := by omega
  have ex : (((x / 60).toNat : Nat) : Int) * 60 + ((x % 60).toNat : Nat) = x := by omega
  have hm : (x % 60).toNat < 60 := by omega
  have hh : (x / 60).toNat < 24 := by omega
  generalize (x / 60).toNat = h at *
  generalize (x % 60).toNat = m at *
  by_cases hn : hasB c.ho h = true ∧ c.mi / 2 ^ m ≠ 0
  · refine (minuteFrom_here c hc x h m w hT h0 h1 e1 e2 hn.1 hn.2).mono ?_
    rintro e w' ⟨rfl, hb⟩
    have := least_here hc hh hm hn.1 hn.2
    rw [ex] at this
    refine ⟨Or.inl ⟨_, rfl, ?_⟩, hb⟩
    rw [ex]
    exact this
  · have hn' : hasB c.ho h = false ∨ c.mi / 2 ^ m = 0 := by
      by_cases e : hasB c.ho h = true
      · exact Or.inr (Classical.byContradiction fun k => hn ⟨e, k⟩)
      · exact Or.inl (by simpa using e)
    by_cases hz : c.ho / 2 ^ (h + 1) = 0
    · refine (minuteFrom_none c hc x h m w h0 h1 e1 e2 hn' hz).mono ?_
      rintro e w' ⟨rfl, hb⟩
      have := none_later hm hn' hz
      rw [ex] at this
      exact ⟨Or.inr ⟨rfl, this⟩, hb⟩
    · refine (minuteFrom_later c hc x h m w hT h0 h1 e1 e2 hn' hz).mono ?_
      rintro e w' ⟨rfl, hb⟩
      have := least_later hc hm hn' hz
      rw [ex] at this
      exact ⟨Or.inl ⟨_, rfl, this⟩, hb⟩

set_option maxHeartbeats 800000 in
theorem setsOf_any (a b c d e : Int) (w : World) :
    Calls Tryd.prog 13 #[.agg #[.int .u64 a, .int .u64 b, .int .u64 c, .int .u64 d, .int .u64 e]] w fun r w' => r = .returned (.agg #[.int .u64 a, .int .u64 b, .int .u64 c, .int .u64 d, .int .u64 e]) ∧ Below w.heap.size w w' := by
  go_enter Tryd.func13, Tryd.ntmps13
  go_wp2
  exact bodyPost_ret (v := .agg #[.int .u64 a, .int .u64 b, .int .u64 c, .int .u64 d, .int .u64 e]) (by simp [results, Tryd.results13, go_sem]) rfl ⟨rfl, (below_box w _).alloc (by simp) _⟩
end Go.Proofs.YthebcdadoinflaaDoor
