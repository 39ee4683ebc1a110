/- CivilText answers true for every two numbers and every text: the walk over the law's own text, out of the contracts. -/
import Derived.Test.YtbcfdleijpicgaaDoorAlive
import Derived.Test.YtbcfdleijpicgaaDoorBad
import Derived.Test.YtbcfdleijpicgaaDoorStr
namespace Go.Proofs.YtbcfdleijpicgaaDoor
open Go.RowKit Cal Txt

/-- The three things that a text can be. -/
def Reads (s : ByteArray) : Prop := Hid (rd s.data.toList = none) ∨ (∃ y m d : Int, Hid (rd s.data.toList = some (y, m, d)) ∧ vld y m d = false) ∨ ∃ y m d : Int, Hid (rd s.data.toList = some (y, m, d)) ∧ vld y m d = true
theorem reads_any (s : ByteArray) : Reads s := by
  cases h : rd s.data.toList with
  | none => exact .inl h
  | some t =>
    obtain ⟨y, m, d⟩ := t
    cases hv : vld y m d
    · exact .inr (.inl ⟨y, m, d, h, hv⟩)
    · exact .inr (.inr ⟨y, m, d, h, hv⟩)
theorem txt_eq {s : ByteArray} {y m d : Int} (h : rd s.data.toList = some (y, m, d)) : (txt y m d == s.toList) = true := by
  rw [txt_rd h]
  simp [Lib.toList_data]
theorem alloc_stays (w : World) (o : Obj) : Below w.heap.size w (w.alloc o) := (Below.refl w.heap.size w).alloc (Nat.le_refl _) o

set_option maxHeartbeats 800000 in
theorem civilText_yy (n m : Int) (s : ByteArray) (w : World) (hT : Tabs w) (y o d : Int) (hv : vld y o d = true) (H : Hid (num y o d = n)) (y' o' d' : Int) (hv' : vld y' o' d' = true) (H' : Hid (num y' o' d' = m)) (L : Hid (Op.bytesLess (txt y o d) (txt y' o' d') = decide (n < m))) (E : Hid ((txt y o d == txt y' o' d') = (n == m))) (hR : Reads s) :
    Calls Tryd.prog 4 #[.int .i64 n, .int .i64 m, .string s] w fun e w' => e = .returned (.bool true) ∧ Below w.heap.size w w' := by
  go_enter Tryd.func4, Tryd.ntmps4
  go_wp2_with (go_at_call 15; refine (days_any _ hT.1).mono ?_; rintro e w' ⟨rfl, rfl⟩)
  refine (Text_at _ _ _ _ _ hT hv H).mono ?_
  rintro e w1 ⟨rfl, hb1⟩
  have hT1 := hT.stays hb1
  go_wp2_with fail
  refine (Text_at _ _ _ _ _ hT1 hv' H').mono ?_
  rintro e w2 ⟨rfl, hb2⟩
  have hT2 := hT1.stays hb2
  go_wp2_with fail
  refine (good2 _ _).mono ?_
  rintro e w3 ⟨rfl, rfl⟩
  have hb3 := alloc_stays w2 (.cells #[.int .i64 0, .int .i64 0] 22)
  have HB : Hid _ := below_on (below_on hb1 hb2) hb3
  have TT : Hid _ := hT2.stays hb3
  clear hb1 hb2 hb3 hT1
  go_wp2_with fail
  refine (Read_yes _ _ TT.out.1 y o d (show rd _ = _ by simpa using rd_txt hv) hv).mono ?_
  rintro e w4 ⟨rfl, rfl⟩
  have hn := H.out
  have hl := L.out
  have he := E.out
  go_wp2_with fail
  rcases hR with R | ⟨p, q, r, R, hr⟩ | ⟨p, q, r, R, hr⟩
  · refine (Read_form _ _ R).mono ?_
    rintro e w5 ⟨rfl, rfl⟩
    go_wp2_with fail
    go_ret
    exact ⟨rfl, HB.out⟩
  · refine (Read_no _ _ TT.out.1 p q r R hr).mono ?_
    rintro e w5 ⟨rfl, rfl⟩
    go_wp2_with fail
    go_ret
    exact ⟨rfl, HB.out⟩
  · have E : Hid ((txt p q r == s.toList) = true) := txt_eq R.out
    refine (Read_yes _ _ TT.out.1 p q r R hr).mono ?_
    rintro e w5 ⟨rfl, rfl⟩
    go_wp2_with fail
    refine (Text_at _ p q r _ TT.out hr rfl).mono ?_
    rintro e w6 ⟨rfl, hb6⟩
    have hE := E.out
    go_wp2_with fail
    go_ret
    exact ⟨by first | rfl | simp, below_on HB.out hb6⟩

set_option maxHeartbeats 800000 in
theorem civilText_yn (n m : Int) (s : ByteArray) (w : World) (hT : Tabs w) (y o d : Int) (hv : vld y o d = true) (H : Hid (num y o d = n)) (H' : Hid (m < 0 ∨ 3652058 < m)) (hR : Reads s) :
    Calls Tryd.prog 4 #[.int .i64 n, .int .i64 m, .string s] w fun e w' => e = .returned (.bool true) ∧ Below w.heap.size w w' := by
  go_enter Tryd.func4, Tryd.ntmps4
  go_wp2_with (go_at_call 15; refine (days_any _ hT.1).mono ?_; rintro e w' ⟨rfl, rfl⟩)
  refine (Text_at _ _ _ _ _ hT hv H).mono ?_
  rintro e w1 ⟨rfl, hb1⟩
  have hT1 := hT.stays hb1
  go_wp2_with fail
  refine (Text_no _ _ H').mono ?_
  rintro e w2 ⟨rfl, rfl⟩
  have hb2 := Below.refl w2.heap.size w2
  have hT2 := hT1
  go_wp2_with fail
  refine (bad_second _ _).mono ?_
  rintro e w3 ⟨rfl, rfl⟩
  have hb3 := alloc_stays w2 (.cells #[.int .i64 0, .int .i64 4] 22)
  have HB : Hid _ := below_on (below_on hb1 hb2) hb3
  have TT : Hid _ := hT2.stays hb3
  clear hb1 hb2 hb3 hT1
  go_wp2_with fail
  rcases hR with R | ⟨p, q, r, R, hr⟩ | ⟨p, q, r, R, hr⟩
  · refine (Read_form _ _ R).mono ?_
    rintro e w5 ⟨rfl, rfl⟩
    go_wp2_with fail
    go_ret
    exact ⟨rfl, HB.out⟩
  · refine (Read_no _ _ TT.out.1 p q r R hr).mono ?_
    rintro e w5 ⟨rfl, rfl⟩
    go_wp2_with fail
    go_ret
    exact ⟨rfl, HB.out⟩
  · have E : Hid ((txt p q r == s.toList) = true) := txt_eq R.out
    refine (Read_yes _ _ TT.out.1 p q r R hr).mono ?_
    rintro e w5 ⟨rfl, rfl⟩
    go_wp2_with fail
    refine (Text_at _ p q r _ TT.out hr rfl).mono ?_
    rintro e w6 ⟨rfl, hb6⟩
    have hE := E.out
    go_wp2_with fail
    go_ret
    exact ⟨by first | rfl | simp, below_on HB.out hb6⟩

set_option maxHeartbeats 800000 in
theorem civilText_ny (n m : Int) (s : ByteArray) (w : World) (hT : Tabs w) (H : Hid (n < 0 ∨ 3652058 < n)) (y' o' d' : Int) (hv' : vld y' o' d' = true) (H' : Hid (num y' o' d' = m)) (hR : Reads s) :
    Calls Tryd.prog 4 #[.int .i64 n, .int .i64 m, .string s] w fun e w' => e = .returned (.bool true) ∧ Below w.heap.size w w' := by
  go_enter Tryd.func4, Tryd.ntmps4
  go_wp2_with (go_at_call 15; refine (days_any _ hT.1).mono ?_; rintro e w' ⟨rfl, rfl⟩)
  refine (Text_no _ _ H).mono ?_
  rintro e w1 ⟨rfl, rfl⟩
  have hb1 := Below.refl w1.heap.size w1
  have hT1 := hT
  go_wp2_with fail
  refine (Text_at _ _ _ _ _ hT1 hv' H').mono ?_
  rintro e w2 ⟨rfl, hb2⟩
  have hT2 := hT1.stays hb2
  go_wp2_with fail
  refine (bad_first _ _ 0).mono ?_
  rintro e w3 ⟨rfl, rfl⟩
  have hb3 := alloc_stays w2 (.cells #[.int .i64 4, .int .i64 0] 22)
  have HB : Hid _ := below_on (below_on hb1 hb2) hb3
  have TT : Hid _ := hT2.stays hb3
  clear hb1 hb2 hb3 hT1
  go_wp2_with fail
  rcases hR with R | ⟨p, q, r, R, hr⟩ | ⟨p, q, r, R, hr⟩
  · refine (Read_form _ _ R).mono ?_
    rintro e w5 ⟨rfl, rfl⟩
    go_wp2_with fail
    go_ret
    exact ⟨rfl, HB.out⟩
  · refine (Read_no _ _ TT.out.1 p q r R hr).mono ?_
    rintro e w5 ⟨rfl, rfl⟩
    go_wp2_with fail
    go_ret
    exact ⟨rfl, HB.out⟩
  · have E : Hid ((txt p q r == s.toList) = true) := txt_eq R.out
    refine (Read_yes _ _ TT.out.1 p q r R hr).mono ?_
    rintro e w5 ⟨rfl, rfl⟩
    go_wp2_with fail
    refine (Text_at _ p q r _ TT.out hr rfl).mono ?_
    rintro e w6 ⟨rfl, hb6⟩
    have hE := E.out
    go_wp2_with fail
    go_ret
    exact ⟨by first | rfl | simp, below_on HB.out hb6⟩

set_option maxHeartbeats 800000 in
theorem civilText_nn (n m : Int) (s : ByteArray) (w : World) (hT : Tabs w) (H : Hid (n < 0 ∨ 3652058 < n)) (H' : Hid (m < 0 ∨ 3652058 < m)) (hR : Reads s) :
    Calls Tryd.prog 4 #[.int .i64 n, .int .i64 m, .string s] w fun e w' => e = .returned (.bool true) ∧ Below w.heap.size w w' := by
  go_enter Tryd.func4, Tryd.ntmps4
  go_wp2_with (go_at_call 15; refine (days_any _ hT.1).mono ?_; rintro e w' ⟨rfl, rfl⟩)
  refine (Text_no _ _ H).mono ?_
  rintro e w1 ⟨rfl, rfl⟩
  have hb1 := Below.refl w1.heap.size w1
  have hT1 := hT
  go_wp2_with fail
  refine (Text_no _ _ H').mono ?_
  rintro e w2 ⟨rfl, rfl⟩
  have hb2 := Below.refl w2.heap.size w2
  have hT2 := hT1
  go_wp2_with fail
  refine (bad_first _ _ 4).mono ?_
  rintro e w3 ⟨rfl, rfl⟩
  have hb3 := alloc_stays w2 (.cells #[.int .i64 4, .int .i64 4] 22)
  have HB : Hid _ := below_on (below_on hb1 hb2) hb3
  have TT : Hid _ := hT2.stays hb3
  clear hb1 hb2 hb3 hT1
  go_wp2_with fail
  rcases hR with R | ⟨p, q, r, R, hr⟩ | ⟨p, q, r, R, hr⟩
  · refine (Read_form _ _ R).mono ?_
    rintro e w5 ⟨rfl, rfl⟩
    go_wp2_with fail
    go_ret
    exact ⟨rfl, HB.out⟩
  · refine (Read_no _ _ TT.out.1 p q r R hr).mono ?_
    rintro e w5 ⟨rfl, rfl⟩
    go_wp2_with fail
    go_ret
    exact ⟨rfl, HB.out⟩
  · have E : Hid ((txt p q r == s.toList) = true) := txt_eq R.out
    refine (Read_yes _ _ TT.out.1 p q r R hr).mono ?_
    rintro e w5 ⟨rfl, rfl⟩
    go_wp2_with fail
    refine (Text_at _ p q r _ TT.out hr rfl).mono ?_
    rintro e w6 ⟨rfl, hb6⟩
    have hE := E.out
    go_wp2_with fail
    go_ret
    exact ⟨by first | rfl | simp, below_on HB.out hb6⟩

theorem civilText_walk (n m : Int) (s : ByteArray) (w : World) (hT : Tabs w) :
    Calls Tryd.prog 4 #[.int .i64 n, .int .i64 m, .string s] w fun e w' => e = .returned (.bool true) ∧ Below w.heap.size w w' := by
  have hR := reads_any s
  rcases (show (n < 0 ∨ 3652058 < n) ∨ (0 ≤ n ∧ n ≤ 3652058) by omega) with h | ⟨h1, h2⟩
  · rcases (show (m < 0 ∨ 3652058 < m) ∨ (0 ≤ m ∧ m ≤ 3652058) by omega) with g | ⟨g1, g2⟩
    · exact civilText_nn n m s w hT h g hR
    · obtain ⟨y', o', d', hv', e'⟩ := date_ex g1 g2
      exact civilText_ny n m s w hT h y' o' d' hv' e' hR
  · obtain ⟨y, o, d, hv, e⟩ := date_ex h1 h2
    rcases (show (m < 0 ∨ 3652058 < m) ∨ (0 ≤ m ∧ m ≤ 3652058) by omega) with g | ⟨g1, g2⟩
    · exact civilText_yn n m s w hT y o d hv e g hR
    · obtain ⟨y', o', d', hv', e'⟩ := date_ex g1 g2
      refine civilText_yy n m s w hT y o d hv e y' o' d' hv' e' ?_ ?_ hR
      · show _ = _
        rw [less_txt hv hv', e, e']
      · show _ = _
        have q := eq_txt hv hv'
        rw [e, e'] at q
        rw [Bool.eq_iff_iff]
        simpa using q
end Go.Proofs.YtbcfdleijpicgaaDoor
