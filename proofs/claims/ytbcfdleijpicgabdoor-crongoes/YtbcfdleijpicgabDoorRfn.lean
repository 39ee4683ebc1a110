/- What the reference's CronMatch, CronNext and CronFault answer: contracts, each proved by a walk over its own text. -/
import Derived.Test.YtbcfdleijpicgabDoorRfb
namespace Go.Proofs.YtbcfdleijpicgabDoor
open Go.RowKit Cal Crn

set_option maxHeartbeats 1000000 in
theorem CronMatch_a (c : Cr) (hc : okB c = true) (t : Int) (w : World) (h1 : 0 ≤ t) (h2 : t ≤ 5258964959) (e2 : hasB c.mi (t % 60) = false) :
    Calls Tryd.prog 12 #[.agg #[.int .u64 c.mi, .int .u64 c.ho, .int .u64 c.dm, .int .u64 c.mo, .int .u64 c.dw], .int .i64 t] w fun e w' => e = .returned (.bool (matB c t)) ∧ Below w.heap.size w w' := by
  obtain ⟨o1, o2, o3, o4, _⟩ := ok_open hc
  go_enter Tryd.func12, Tryd.ntmps12
  go_wp2_with (go_at_call 21; refine (In_yes _ _ _ (by omega) (by omega) (by omega)).mono ?_; rintro e w' ⟨rfl, rfl⟩)
  go_ret
  exact ⟨ret_bool (by rw [mat_eq, e2]; simp), below_box w _⟩

set_option maxHeartbeats 1000000 in
theorem CronMatch_b (c : Cr) (hc : okB c = true) (t : Int) (w : World) (h1 : 0 ≤ t) (h2 : t ≤ 5258964959) (e2 : hasB c.mi (t % 60) = true) (e1 : hasB c.ho (t % 1440 / 60) = false) :
    Calls Tryd.prog 12 #[.agg #[.int .u64 c.mi, .int .u64 c.ho, .int .u64 c.dm, .int .u64 c.mo, .int .u64 c.dw], .int .i64 t] w fun e w' => e = .returned (.bool (matB c t)) ∧ Below w.heap.size w w' := by
  obtain ⟨o1, o2, o3, o4, _⟩ := ok_open hc
  go_enter Tryd.func12, Tryd.ntmps12
  go_wp2_with (go_at_call 21; refine (In_yes _ _ _ (by omega) (by omega) (by omega)).mono ?_; rintro e w' ⟨rfl, rfl⟩)
  go_ret
  exact ⟨ret_bool (by rw [mat_eq, e1]; simp), below_box w _⟩

set_option maxHeartbeats 1000000 in
theorem CronMatch_c (c : Cr) (hc : okB c = true) (t : Int) (w : World) (h1 : 0 ≤ t) (h2 : t ≤ 5258964959) (e2 : hasB c.mi (t % 60) = true) (e1 : hasB c.ho (t % 1440 / 60) = true) :
    Calls Tryd.prog 12 #[.agg #[.int .u64 c.mi, .int .u64 c.ho, .int .u64 c.dm, .int .u64 c.mo, .int .u64 c.dw], .int .i64 t] w fun e w' => e = .returned (.bool (matB c t)) ∧ Below w.heap.size w w' := by
  obtain ⟨o1, o2, o3, o4, _⟩ := ok_open hc
  go_enter Tryd.func12, Tryd.ntmps12
  go_wp2_with (go_at_call 21; refine (In_yes _ _ _ (by omega) (by omega) (by omega)).mono ?_; rintro e w' ⟨rfl, rfl⟩)
  refine (DayFits_any c hc _ _ (by omega) (by omega)).mono ?_
  rintro e w1 ⟨rfl, hb⟩
  go_wp2
  go_ret
  exact ⟨ret_bool (by rw [mat_eq, e1, e2]; rfl), (below_box w _).trans (hb.mono (by simp))⟩

theorem CronMatch_any (c : Cr) (hc : okB c = true) (t : Int) (w : World) (h1 : 0 ≤ t) (h2 : t ≤ 5258964959) :
    Calls Tryd.prog 12 #[.agg #[.int .u64 c.mi, .int .u64 c.ho, .int .u64 c.dm, .int .u64 c.mo, .int .u64 c.dw], .int .i64 t] w fun e w' => e = .returned (.bool (matB c t)) ∧ Below w.heap.size w w' := by
  by_cases e2 : hasB c.mi (t % 60) = true
  · by_cases e1 : hasB c.ho (t % 1440 / 60) = true
    · exact CronMatch_c c hc t w h1 h2 e2 e1
    · exact CronMatch_b c hc t w h1 h2 e2 (by simpa using e1)
  · exact CronMatch_a c hc t w h1 h2 (by simpa using e2)

set_option maxHeartbeats 4000000 in
theorem CronNext_any (c : Cr) (hc : okB c = true) (t0 : Int) (w : World) (h1 : -1 ≤ t0) (h2 : t0 ≤ 5258964959) :
    Calls Tryd.prog 13 #[.agg #[.int .u64 c.mi, .int .u64 c.ho, .int .u64 c.dm, .int .u64 c.mo, .int .u64 c.dw], .int .i64 t0] w fun e w' => ((∃ n, e = .returned (.tuple #[.int .i64 n, .bool true]) ∧ NextIs c t0 n) ∨ (e = .returned (.tuple #[.int .i64 0, .bool false]) ∧ NoNext c t0)) ∧ Below w.heap.size w w' := by
  obtain ⟨o1, o2, o3, o4, _⟩ := ok_open hc
  go_enter Tryd.func13, Tryd.ntmps13
  go_wp2_with fail
  go_loopw [1, 6] (fun f d wr => ∃ (t k : Int), f = .int .i64 t ∧ d = .int .i64 k ∧ (0 ≤ k ∧ k ≤ 150000) ∧ t ≤ 5258964960 ∧ Hid (Pst c t0 t k) ∧ Below (w.heap.size + 1) (w.alloc (.cells #[.int .u64 c.mi, .int .u64 c.ho, .int .u64 c.dm, .int .u64 c.mo, .int .u64 c.dw] 24)) wr) (fun _ d _ => (150001 - intOf d).toNat)
  case atStart => exact ⟨t0 + 1, 0, rfl, rfl, by omega, by omega, pst_start c t0, Below.refl _ _⟩
  case round =>
    obtain ⟨t, k, rfl, rfl, g1, g2, hP, hB⟩ := hrel
    have hge := pst_ge hP.out
    obtain ⟨hcl, hfz⟩ := bcell hB
    have hbw := (below_box w (.cells #[.int .u64 c.mi, .int .u64 c.ho, .int .u64 c.dm, .int .u64 c.mo, .int .u64 c.dw] 24)).trans (hB.mono (by omega))
    by_cases ht : t ≤ 5258964959
    · by_cases hk : k < 150000
      · by_cases hd : dmB c (t / 1440) = true
        · go_wp2_with fail
          refine (DayFits_any c hc _ _ (by omega) (by omega)).mono ?_
          rintro e w2 ⟨rfl, hb⟩
          have hB2 : Below (w.heap.size + 1) (w.alloc (.cells #[.int .u64 c.mi, .int .u64 c.ho, .int .u64 c.dm, .int .u64 c.mo, .int .u64 c.dw] 24)) w2 := hB.trans (hb.mono (by have := hB.size; simp at this; omega))
          clear hb hcl hfz
          obtain ⟨hcl, hfz⟩ := bcell hB2
          have hbw2 := (below_box w (.cells #[.int .u64 c.mi, .int .u64 c.ho, .int .u64 c.dm, .int .u64 c.mo, .int .u64 c.dw] 24)).trans (hB2.mono (by omega))
          go_wp2_with fail
          go_loopw [1] (fun f wr => ∃ x : Int, f = .int .i64 x ∧ t ≤ x ∧ x ≤ t / 1440 * 1440 + 1440 ∧ Hid (NoMin c t x) ∧ wr = w2) (fun f _ => (t / 1440 * 1440 + 1440 - intOf f).toNat)
          case atStart => exact ⟨t, rfl, by omega, by omega, noMin_start c t, rfl⟩
          case round =>
            obtain ⟨x, rfl, p1, p2, hN, rfl⟩ := hrel
            have HT : Hid (tmB c (x % 1440) = (hasB c.mi (x % 60) && hasB c.ho (x % 1440 / 60))) := tm_eq c x
            by_cases hx : x < t / 1440 * 1440 + 1440
            · by_cases e2 : hasB c.mi (x % 60) = true
              · by_cases e1 : hasB c.ho (x % 1440 / 60) = true
                · go_wp2_with (go_at_call 21; refine (In_yes _ _ _ (by omega) (by omega) (by omega)).mono ?_; rintro e w' ⟨rfl, rfl⟩)
                  go_ret2
                  exact ⟨Or.inl ⟨_, rfl, pst_found hP.out h1 ht hd (noMin_least hN.out (by rw [HT.out, e1, e2]; rfl) p1 hx) p1 hx⟩, hbw2⟩
                · have e1' : hasB c.ho (x % 1440 / 60) = false := by simpa using e1
                  clear e1
                  go_wp2_with (go_at_call 21; refine (In_yes _ _ _ (by omega) (by omega) (by omega)).mono ?_; rintro e w' ⟨rfl, rfl⟩)
                  go_roundw
                  case rel => exact ⟨x + 1, by go_num, by omega, by omega, noMin_snoc hN.out (by rw [HT.out, e1', e2]; rfl), trivial⟩
                  case measure => simp [intOf]; omega
              · have e2' : hasB c.mi (x % 60) = false := by simpa using e2
                clear e2
                go_wp2_with (go_at_call 21; refine (In_yes _ _ _ (by omega) (by omega) (by omega)).mono ?_; rintro e w' ⟨rfl, rfl⟩)
                go_roundw
                case rel => exact ⟨x + 1, by go_num, by omega, by omega, noMin_snoc hN.out (by rw [HT.out, e2']; rfl), trivial⟩
                case measure => simp [intOf]; omega
            · have hxe : x = t / 1440 * 1440 + 1440 := by omega
              have HX : Hid (x = t / 1440 * 1440 + 1440) := hxe
              clear hxe
              go_wp2_with fail
              go_roundw
              case rel => exact ⟨x, k + 1, rfl, by go_num, by omega, by have := HX.out; omega, by have h := pst_rest hc hP.out (noMin_none (by have h := hN.out; rw [HX.out] at h; exact h)); rw [← HX.out] at h; exact h, hB2⟩
              case measure => simp [intOf]; omega
        · have hd' : dmB c (t / 1440) = false := by simpa using hd
          clear hd
          go_wp2_with fail
          refine (DayFits_any c hc _ _ (by omega) (by omega)).mono ?_
          rintro e w2 ⟨rfl, hb⟩
          have hB2 : Below (w.heap.size + 1) (w.alloc (.cells #[.int .u64 c.mi, .int .u64 c.ho, .int .u64 c.dm, .int .u64 c.mo, .int .u64 c.dw] 24)) w2 := hB.trans (hb.mono (by have := hB.size; simp at this; omega))
          clear hb
          go_wp2_with fail
          go_roundw
          case rel => exact ⟨t / 1440 * 1440 + 1440, k + 1, by go_num, by go_num, by omega, by omega, pst_no hP.out hd', hB2⟩
          case measure => simp [intOf]; omega
      · go_wp2_with fail
        go_ret2
        exact ⟨Or.inr ⟨rfl, pst_end hP.out h1 (Or.inr (by omega))⟩, hbw⟩
    · go_wp2_with fail
      go_ret2
      exact ⟨Or.inr ⟨rfl, pst_end hP.out h1 (Or.inl (by omega))⟩, hbw⟩
theorem CronNext_at (c : Cr) (hc : okB c = true) (t n : Int) (w : World) (h1 : -1 ≤ t) (h2 : t ≤ 5258964959) (hn : NextIs c t n) :
    Calls Tryd.prog 13 #[.agg #[.int .u64 c.mi, .int .u64 c.ho, .int .u64 c.dm, .int .u64 c.mo, .int .u64 c.dw], .int .i64 t] w fun e w' => e = .returned (.tuple #[.int .i64 n, .bool true]) ∧ Below w.heap.size w w' := by
  refine (CronNext_any c hc t w h1 h2).mono ?_
  rintro e w' ⟨⟨m, rfl, hm⟩ | ⟨rfl, hm⟩, hb⟩
  · exact ⟨by rw [next_eq hm hn], hb⟩
  · exact (next_no hn hm).elim
theorem CronNext_none (c : Cr) (hc : okB c = true) (t : Int) (w : World) (h1 : -1 ≤ t) (h2 : t ≤ 5258964959) (hn : NoNext c t) :
    Calls Tryd.prog 13 #[.agg #[.int .u64 c.mi, .int .u64 c.ho, .int .u64 c.dm, .int .u64 c.mo, .int .u64 c.dw], .int .i64 t] w fun e w' => e = .returned (.tuple #[.int .i64 0, .bool false]) ∧ Below w.heap.size w w' := by
  refine (CronNext_any c hc t w h1 h2).mono ?_
  rintro e w' ⟨⟨m, rfl, hm⟩ | ⟨rfl, hm⟩, hb⟩
  · exact (next_no hm hn).elim
  · exact ⟨rfl, hb⟩
end Go.Proofs.YtbcfdleijpicgabDoor
