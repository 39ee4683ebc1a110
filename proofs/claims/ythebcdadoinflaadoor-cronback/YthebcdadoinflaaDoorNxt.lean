/- What package cron's Match and Next answer, for every cron and every time: contracts, each proved by a walk over its own text. -/
import Derived.Test.YthebcdadoinflaaDoorChk
namespace Go.Proofs.YthebcdadoinflaaDoor
open Go.RowKit Cal Crn

theorem bcell {W w1 : World} {B : Nat} (hb : Below B W w1) : (∀ b o, b < B → w1.cell? ⟨b, o, none⟩ = W.cell? ⟨b, o, none⟩) ∧ (∀ b o, b < B → w1.frozen? ⟨b, o, none⟩ = W.frozen? ⟨b, o, none⟩) :=
  ⟨fun b o h => hb.cell (p := ⟨b, o, none⟩) h, fun b o h => hb.frozen (p := ⟨b, o, none⟩) h⟩
theorem on {w W x y : World} {B : Nat} (h1 : Below w.heap.size w W) (h2 : Below B x y) (hx : x = W) (hB : w.heap.size ≤ B) : Below w.heap.size w y := by
  subst hx
  exact h1.trans (h2.mono hB)
theorem ret_bi {a b : Bool} {k : IntKind} {x : Int} (h : a = b) : Ending.returned (.tuple #[.bool a, .int k x]) = .returned (.tuple #[.bool b, .int k x]) := by rw [h]

set_option maxHeartbeats 4000000 in
theorem dayFrom_far (c : Cr) (hc : okB c = true) (a : Int) (w : World) (hT : Tb w) (h1 : 0 ≤ a) (h2 : a ≤ 3652060) (hlt : a + 146097 < 3652058) :
    Calls Tryd.prog 37 #[.agg #[.int .u64 c.mi, .int .u64 c.ho, .int .u64 c.dm, .int .u64 c.mo, .int .u64 c.dw], .int .i64 a] w fun e w' => ((∃ y, e = .returned (.tuple #[.int .i64 y, .bool true]) ∧ LeastD c a y) ∨ (e = .returned (.tuple #[.int .i64 0, .bool false]) ∧ NoD c a)) ∧ Below w.heap.size w w' := by
  obtain ⟨_, _, _, _, _, _, _, o1, o2, _, _, _⟩ := ok_open hc
  go_enter Tryd.func37, Tryd.ntmps37
  go_wp2_with fail
  go_loopw [1] (fun f wr => ∃ n : Int, f = .int .i64 n ∧ a ≤ n ∧ n ≤ 3652060 ∧ Hid (NoTo c a n) ∧ Below (w.heap.size + 1) (w.alloc (.cells #[.int .u64 c.mi, .int .u64 c.ho, .int .u64 c.dm, .int .u64 c.mo, .int .u64 c.dw] 24)) wr) (fun f _ => (3652061 - intOf f).toNat)
  case atStart => exact ⟨a, rfl, by omega, by omega, fun u h1 h2 => by omega, Below.refl _ _⟩
  case round =>
    obtain ⟨n, rfl, g1, g2, hno, hB⟩ := hrel
    have hTr : Tb wr := (hT.alloc _).below hB (by simp)
    by_cases hle : n ≤ a + 146097
    · obtain ⟨hv, hn⟩ := date_of (n := n) (by omega) (by omega)
      have HN : Hid (num (yr n) (mth n) (dy n) = n) := hn
      clear hn
      obtain ⟨p1, p2, b1, b2, b3, b4⟩ := vld_open hv
      have b5 := dim_bd (yr n) (mth n)
      have hg := gym_of p1 p2 b1 b2
      generalize dy n = d at *
      generalize yr n = y at *
      generalize mth n = m at *
      have hend : n + (dim y m - d) ≤ 3652058 := by
        have := (dm_in (c := c) (i := (dim y m - d).toNat) hv HN.out (by omega)).1
        omega
      go_wp2_with (first | (go_at_call 49; refine (Date_at _ _ _ _ _ hTr.m hv HN).mono ?_; rintro e w' ⟨rfl, rfl⟩) | (go_at_call 53; refine (Length_yes _ _ _ hTr.m hg).mono ?_; rintro e w' ⟨rfl, rfl⟩) | (go_at_call 50; refine (Weekday_yes _ _ (by omega) (by omega)).mono ?_; rintro e w' ⟨rfl, rfl⟩))
      go_loopw [16] (fun i wr => ∃ k : Nat, i = .int .i64 k ∧ (k : Int) ≤ dim y m - d + 1 ∧ Hid (NoTo c n (n + k)) ∧ Below (w.heap.size + 1) (w.alloc (.cells #[.int .u64 c.mi, .int .u64 c.ho, .int .u64 c.dm, .int .u64 c.mo, .int .u64 c.dw] 24)) wr) (fun i _ => (32 - intOf i).toNat)
      case atStart => exact ⟨0, rfl, by omega, noTo_start c n, hB⟩
      case round =>
        clear hB hTr
        obtain ⟨k, rfl, q1, hno2, hB⟩ := hrel
        obtain ⟨hcl, hfz⟩ := bcell hB
        have hbw := (below_box w (.cells #[.int .u64 c.mi, .int .u64 c.ho, .int .u64 c.dm, .int .u64 c.mo, .int .u64 c.dw] 24)).trans (hB.mono (by omega))
        by_cases hm : hasB c.mo m = true
        · by_cases hk : (k : Int) < dim y m - d + 1
          · obtain ⟨hin, hdm⟩ := (dm_in (c := c) (i := k) hv HN.out (by omega))
            have HD : Hid (dmB c (n + k) = (hasB c.mo m && fitB c (d + k) ((n + 1 + k) % 7))) := hdm
            clear hdm
            by_cases hf : fitB c (d + k) ((n + 1 + k) % 7) = true
            · go_wp2_with (first | (go_at_call 51; refine (has_at _ _ _ (by omega) (by omega) (by omega)).mono ?_; rintro e w' ⟨rfl, rfl⟩))
              refine (dayFits_any c hc _ _ _ (by omega) (by omega) (by omega) (by omega)).mono ?_
              rintro e w2 ⟨rfl, hb2⟩
              go_wp2
              go_ret2
              exact ⟨Or.inl ⟨_, rfl, leastD_of hno.out hno2.out g1 hin (by rw [HD.out, hm, hf]; rfl)⟩, on hbw hb2 rfl hbw.size⟩
            · have hf' : fitB c (d + k) ((n + 1 + k) % 7) = false := by simpa using hf
              clear hf
              go_wp2_with (first | (go_at_call 51; refine (has_at _ _ _ (by omega) (by omega) (by omega)).mono ?_; rintro e w' ⟨rfl, rfl⟩))
              refine (dayFits_any c hc _ _ _ (by omega) (by omega) (by omega) (by omega)).mono ?_
              rintro e w2 ⟨rfl, hb2⟩
              go_wp2
              go_roundw
              case rel => exact ⟨k + 1, by go_num, by omega, noTo_snoc hno2.out (by rw [HD.out, hf']; simp), hB.trans (hb2.mono (by have := hB.size; simp at this; omega))⟩
              case measure => simp [intOf]; omega
          · have hkk : n + (k : Int) = n + (dim y m - d + 1) := by omega
            have HK : Hid (n + (k : Int) = n + (dim y m - d + 1)) := hkk
            clear hkk
            go_wp2_with (first | (go_at_call 51; refine (has_at _ _ _ (by omega) (by omega) (by omega)).mono ?_; rintro e w' ⟨rfl, rfl⟩))
            go_roundw
            case rel => exact ⟨n + (dim y m - d + 1), by go_num, by omega, by omega, noTo_on hno.out (HK.out ▸ hno2.out), hB⟩
            case measure => simp [intOf]; omega
        · have hm' : hasB c.mo m = false := by simpa using hm
          have hmon := noTo_month hv HN.out hm'
          have HM : Hid (NoTo c n (n + (dim y m - d + 1))) := hmon
          clear hm hmon
          by_cases hk : (k : Int) < dim y m - d + 1
          all_goals
            go_wp2_with (first | (go_at_call 51; refine (has_at _ _ _ (by omega) (by omega) (by omega)).mono ?_; rintro e w' ⟨rfl, rfl⟩))
            go_roundw
            case rel => exact ⟨n + (dim y m - d + 1), by go_num, by omega, by omega, noTo_on hno.out HM.out, hB⟩
            case measure => simp [intOf]; omega
    · have hbw := (below_box w (.cells #[.int .u64 c.mi, .int .u64 c.ho, .int .u64 c.dm, .int .u64 c.mo, .int .u64 c.dw] 24)).trans (hB.mono (by omega))
      go_wp2
      go_ret2
      exact ⟨Or.inr ⟨rfl, noD_far h1 hno.out (by omega)⟩, hbw⟩

set_option maxHeartbeats 4000000 in
theorem dayFrom_near (c : Cr) (hc : okB c = true) (a : Int) (w : World) (hT : Tb w) (h1 : 0 ≤ a) (h2 : a ≤ 3652060) (hlt : ¬ a + 146097 < 3652058) :
    Calls Tryd.prog 37 #[.agg #[.int .u64 c.mi, .int .u64 c.ho, .int .u64 c.dm, .int .u64 c.mo, .int .u64 c.dw], .int .i64 a] w fun e w' => ((∃ y, e = .returned (.tuple #[.int .i64 y, .bool true]) ∧ LeastD c a y) ∨ (e = .returned (.tuple #[.int .i64 0, .bool false]) ∧ NoD c a)) ∧ Below w.heap.size w w' := by
  obtain ⟨_, _, _, _, _, _, _, o1, o2, _, _, _⟩ := ok_open hc
  go_enter Tryd.func37, Tryd.ntmps37
  go_wp2_with fail
  go_loopw [1] (fun f wr => ∃ n : Int, f = .int .i64 n ∧ a ≤ n ∧ n ≤ 3652060 ∧ Hid (NoTo c a n) ∧ Below (w.heap.size + 1) (w.alloc (.cells #[.int .u64 c.mi, .int .u64 c.ho, .int .u64 c.dm, .int .u64 c.mo, .int .u64 c.dw] 24)) wr) (fun f _ => (3652061 - intOf f).toNat)
  case atStart => exact ⟨a, rfl, by omega, by omega, fun u h1 h2 => by omega, Below.refl _ _⟩
  case round =>
    obtain ⟨n, rfl, g1, g2, hno, hB⟩ := hrel
    have hTr : Tb wr := (hT.alloc _).below hB (by simp)
    by_cases hle : n ≤ 3652058
    · obtain ⟨hv, hn⟩ := date_of (n := n) (by omega) (by omega)
      have HN : Hid (num (yr n) (mth n) (dy n) = n) := hn
      clear hn
      obtain ⟨p1, p2, b1, b2, b3, b4⟩ := vld_open hv
      have b5 := dim_bd (yr n) (mth n)
      have hg := gym_of p1 p2 b1 b2
      generalize dy n = d at *
      generalize yr n = y at *
      generalize mth n = m at *
      have hend : n + (dim y m - d) ≤ 3652058 := by
        have := (dm_in (c := c) (i := (dim y m - d).toNat) hv HN.out (by omega)).1
        omega
      go_wp2_with (first | (go_at_call 49; refine (Date_at _ _ _ _ _ hTr.m hv HN).mono ?_; rintro e w' ⟨rfl, rfl⟩) | (go_at_call 53; refine (Length_yes _ _ _ hTr.m hg).mono ?_; rintro e w' ⟨rfl, rfl⟩) | (go_at_call 50; refine (Weekday_yes _ _ (by omega) (by omega)).mono ?_; rintro e w' ⟨rfl, rfl⟩))
      go_loopw [16] (fun i wr => ∃ k : Nat, i = .int .i64 k ∧ (k : Int) ≤ dim y m - d + 1 ∧ Hid (NoTo c n (n + k)) ∧ Below (w.heap.size + 1) (w.alloc (.cells #[.int .u64 c.mi, .int .u64 c.ho, .int .u64 c.dm, .int .u64 c.mo, .int .u64 c.dw] 24)) wr) (fun i _ => (32 - intOf i).toNat)
      case atStart => exact ⟨0, rfl, by omega, noTo_start c n, hB⟩
      case round =>
        clear hB hTr
        obtain ⟨k, rfl, q1, hno2, hB⟩ := hrel
        obtain ⟨hcl, hfz⟩ := bcell hB
        have hbw := (below_box w (.cells #[.int .u64 c.mi, .int .u64 c.ho, .int .u64 c.dm, .int .u64 c.mo, .int .u64 c.dw] 24)).trans (hB.mono (by omega))
        by_cases hm : hasB c.mo m = true
        · by_cases hk : (k : Int) < dim y m - d + 1
          · obtain ⟨hin, hdm⟩ := (dm_in (c := c) (i := k) hv HN.out (by omega))
            have HD : Hid (dmB c (n + k) = (hasB c.mo m && fitB c (d + k) ((n + 1 + k) % 7))) := hdm
            clear hdm
            by_cases hf : fitB c (d + k) ((n + 1 + k) % 7) = true
            · go_wp2_with (first | (go_at_call 51; refine (has_at _ _ _ (by omega) (by omega) (by omega)).mono ?_; rintro e w' ⟨rfl, rfl⟩))
              refine (dayFits_any c hc _ _ _ (by omega) (by omega) (by omega) (by omega)).mono ?_
              rintro e w2 ⟨rfl, hb2⟩
              go_wp2
              go_ret2
              exact ⟨Or.inl ⟨_, rfl, leastD_of hno.out hno2.out g1 hin (by rw [HD.out, hm, hf]; rfl)⟩, on hbw hb2 rfl hbw.size⟩
            · have hf' : fitB c (d + k) ((n + 1 + k) % 7) = false := by simpa using hf
              clear hf
              go_wp2_with (first | (go_at_call 51; refine (has_at _ _ _ (by omega) (by omega) (by omega)).mono ?_; rintro e w' ⟨rfl, rfl⟩))
              refine (dayFits_any c hc _ _ _ (by omega) (by omega) (by omega) (by omega)).mono ?_
              rintro e w2 ⟨rfl, hb2⟩
              go_wp2
              go_roundw
              case rel => exact ⟨k + 1, by go_num, by omega, noTo_snoc hno2.out (by rw [HD.out, hf']; simp), hB.trans (hb2.mono (by have := hB.size; simp at this; omega))⟩
              case measure => simp [intOf]; omega
          · have hkk : n + (k : Int) = n + (dim y m - d + 1) := by omega
            have HK : Hid (n + (k : Int) = n + (dim y m - d + 1)) := hkk
            clear hkk
            go_wp2_with (first | (go_at_call 51; refine (has_at _ _ _ (by omega) (by omega) (by omega)).mono ?_; rintro e w' ⟨rfl, rfl⟩))
            go_roundw
            case rel => exact ⟨n + (dim y m - d + 1), by go_num, by omega, by omega, noTo_on hno.out (HK.out ▸ hno2.out), hB⟩
            case measure => simp [intOf]; omega
        · have hm' : hasB c.mo m = false := by simpa using hm
          have hmon := noTo_month hv HN.out hm'
          have HM : Hid (NoTo c n (n + (dim y m - d + 1))) := hmon
          clear hm hmon
          by_cases hk : (k : Int) < dim y m - d + 1
          all_goals
            go_wp2_with (first | (go_at_call 51; refine (has_at _ _ _ (by omega) (by omega) (by omega)).mono ?_; rintro e w' ⟨rfl, rfl⟩))
            go_roundw
            case rel => exact ⟨n + (dim y m - d + 1), by go_num, by omega, by omega, noTo_on hno.out HM.out, hB⟩
            case measure => simp [intOf]; omega
    · have hbw := (below_box w (.cells #[.int .u64 c.mi, .int .u64 c.ho, .int .u64 c.dm, .int .u64 c.mo, .int .u64 c.dw] 24)).trans (hB.mono (by omega))
      go_wp2
      go_ret2
      exact ⟨Or.inr ⟨rfl, noD_near hno.out (by omega)⟩, hbw⟩

theorem dayFrom_any (c : Cr) (hc : okB c = true) (a : Int) (w : World) (hT : Tb w) (h1 : 0 ≤ a) (h2 : a ≤ 3652060) :
    Calls Tryd.prog 37 #[.agg #[.int .u64 c.mi, .int .u64 c.ho, .int .u64 c.dm, .int .u64 c.mo, .int .u64 c.dw], .int .i64 a] w fun e w' => ((∃ y, e = .returned (.tuple #[.int .i64 y, .bool true]) ∧ LeastD c a y) ∨ (e = .returned (.tuple #[.int .i64 0, .bool false]) ∧ NoD c a)) ∧ Below w.heap.size w w' := by
  by_cases hlt : a + 146097 < 3652058
  · exact dayFrom_far c hc a w hT h1 h2 hlt
  · exact dayFrom_near c hc a w hT h1 h2 hlt
end Go.Proofs.YthebcdadoinflaaDoor
