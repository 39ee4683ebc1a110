/- CivilReads answers true for every input: Add, Text and Read answer what the document's own answer says: the walk over the law's own text, out of the contracts. -/
import Derived.Test.YtbcfdleijpicgaaDoorAdd
import Derived.Test.YtbcfdleijpicgaaDoorRefRead
namespace Go.Proofs.YtbcfdleijpicgaaDoor
open Go.RowKit Cal Txt

/-- The three things that a text can be. -/
def Reads (s : ByteArray) : Prop := Hid (rd s.data.toList = none) ∨ (∃ y m d : Int, Hid (rd s.data.toList = some (y, m, d)) ∧ vld y m d = false) ∨ ∃ y m d : Int, Hid (rd s.data.toList = some (y, m, d)) ∧ vld y m d = true
theorem reads_any (s : ByteArray) : Reads s := by
  cases h : rd s.data.toList with
  | none => exact .inl h
  | some t =>
    obtain ⟨y, m, d⟩ := t
    cases hv : vld y m d
    · exact .inr (.inl ⟨y, m, d, h, hv⟩)
    · exact .inr (.inr ⟨y, m, d, h, hv⟩)

set_option maxHeartbeats 800000 in
theorem civilReads_day (n k : Int) (s : ByteArray) (w : World) (hT : Tabs w) (H : Hid (n < 0 ∨ 3652058 < n)) (hR : Reads s) :
    Calls Tryd.prog 3 #[.int .i64 n, .int .i64 k, .string s] w fun e w' => e = .returned (.bool true) ∧ Below w.heap.size w w' := by
  go_enter Tryd.func3, Tryd.ntmps3
  go_wp2_with fail
  refine (Add_day _ _ _ H).mono ?_
  rintro e w' ⟨rfl, rfl⟩
  go_wp2_with fail
  refine (Later_day _ _ _ H).mono ?_
  rintro e w' ⟨rfl, rfl⟩
  go_wp2_with fail
  refine (Text_no _ _ H).mono ?_
  rintro e w1 ⟨rfl, rfl⟩
  have HB : Hid _ := Below.refl w1.heap.size w1
  have TT : Hid _ := hT
  go_wp2_with fail
  refine (DateText_no _ _ H).mono ?_
  rintro e w2 ⟨rfl, rfl⟩
  go_wp2_with fail
  rcases hR with R | ⟨p, q, r, R, hr⟩ | ⟨p, q, r, R, hr⟩
  · refine (Read_form _ _ R).mono ?_
    rintro e w5 ⟨rfl, rfl⟩
    go_wp2_with fail
    refine (DateRead_form _ _ R).mono ?_
    rintro e w6 ⟨rfl, hb6⟩
    go_wp2_with fail
    go_ret
    exact ⟨by first | rfl | simp, below_on HB.out hb6⟩
  · refine (Read_no _ _ TT.out.1 p q r R hr).mono ?_
    rintro e w5 ⟨rfl, rfl⟩
    go_wp2_with fail
    refine (DateRead_no _ _ p q r R hr).mono ?_
    rintro e w6 ⟨rfl, hb6⟩
    go_wp2_with fail
    go_ret
    exact ⟨by first | rfl | simp, below_on HB.out hb6⟩
  · refine (Read_yes _ _ TT.out.1 p q r R hr).mono ?_
    rintro e w5 ⟨rfl, rfl⟩
    go_wp2_with fail
    refine (DateRead_yes _ _ p q r R hr).mono ?_
    rintro e w6 ⟨rfl, hb6⟩
    go_wp2_with fail
    go_ret
    exact ⟨by first | rfl | simp, below_on HB.out hb6⟩

set_option maxHeartbeats 800000 in
theorem civilReads_arg (n k : Int) (s : ByteArray) (w : World) (hT : Tabs w) (y o d : Int) (hv : vld y o d = true) (H : Hid (num y o d = n)) (HK : Hid (k < -120000 ∨ -120000 ≤ k ∧ 120000 < k)) (hR : Reads s) :
    Calls Tryd.prog 3 #[.int .i64 n, .int .i64 k, .string s] w fun e w' => e = .returned (.bool true) ∧ Below w.heap.size w w' := by
  go_enter Tryd.func3, Tryd.ntmps3
  go_wp2_with fail
  refine (Add_arg _ y o d _ _ hT.1 hv H HK.out).mono ?_
  rintro e w' ⟨rfl, rfl⟩
  go_wp2_with fail
  refine (Later_arg _ y o d _ _ hv H HK.out).mono ?_
  rintro e w' ⟨rfl, rfl⟩
  go_wp2_with fail
  refine (Text_at _ y o d _ hT hv H).mono ?_
  rintro e w1 ⟨rfl, hb1⟩
  have HB : Hid _ := hb1
  have TT : Hid _ := hT.stays hb1
  clear hb1
  go_wp2_with fail
  refine (DateText_at _ y o d _ hv H).mono ?_
  rintro e w2 ⟨rfl, rfl⟩
  go_wp2_with fail
  rcases hR with R | ⟨p, q, r, R, hr⟩ | ⟨p, q, r, R, hr⟩
  · refine (Read_form _ _ R).mono ?_
    rintro e w5 ⟨rfl, rfl⟩
    go_wp2_with fail
    refine (DateRead_form _ _ R).mono ?_
    rintro e w6 ⟨rfl, hb6⟩
    go_wp2_with fail
    go_ret
    exact ⟨by first | rfl | simp, below_on HB.out hb6⟩
  · refine (Read_no _ _ TT.out.1 p q r R hr).mono ?_
    rintro e w5 ⟨rfl, rfl⟩
    go_wp2_with fail
    refine (DateRead_no _ _ p q r R hr).mono ?_
    rintro e w6 ⟨rfl, hb6⟩
    go_wp2_with fail
    go_ret
    exact ⟨by first | rfl | simp, below_on HB.out hb6⟩
  · refine (Read_yes _ _ TT.out.1 p q r R hr).mono ?_
    rintro e w5 ⟨rfl, rfl⟩
    go_wp2_with fail
    refine (DateRead_yes _ _ p q r R hr).mono ?_
    rintro e w6 ⟨rfl, hb6⟩
    go_wp2_with fail
    go_ret
    exact ⟨by first | rfl | simp, below_on HB.out hb6⟩

set_option maxHeartbeats 800000 in
theorem civilReads_out (n k : Int) (s : ByteArray) (w : World) (hT : Tabs w) (y o d : Int) (hv : vld y o d = true) (H : Hid (num y o d = n)) (hk : -120000 ≤ k) (hk' : k ≤ 120000) (HK : Hid (y * 12 + o - 1 + k < 12 ∨ 120000 ≤ y * 12 + o - 1 + k)) (HL : Hid (12 * (y - 1) + o - 1 + k < 0 ∨ 0 ≤ 12 * (y - 1) + o - 1 + k ∧ 119988 ≤ 12 * (y - 1) + o - 1 + k)) (hR : Reads s) :
    Calls Tryd.prog 3 #[.int .i64 n, .int .i64 k, .string s] w fun e w' => e = .returned (.bool true) ∧ Below w.heap.size w w' := by
  go_enter Tryd.func3, Tryd.ntmps3
  go_wp2_with fail
  refine (Add_out _ y o d _ _ hT.1 hv H hk hk' HK.out).mono ?_
  rintro e w' ⟨rfl, rfl⟩
  go_wp2_with fail
  refine (Later_out _ y o d _ _ hv H hk hk' HL.out).mono ?_
  rintro e w' ⟨rfl, rfl⟩
  go_wp2_with fail
  refine (Text_at _ y o d _ hT hv H).mono ?_
  rintro e w1 ⟨rfl, hb1⟩
  have HB : Hid _ := hb1
  have TT : Hid _ := hT.stays hb1
  clear hb1
  go_wp2_with fail
  refine (DateText_at _ y o d _ hv H).mono ?_
  rintro e w2 ⟨rfl, rfl⟩
  go_wp2_with fail
  rcases hR with R | ⟨p, q, r, R, hr⟩ | ⟨p, q, r, R, hr⟩
  · refine (Read_form _ _ R).mono ?_
    rintro e w5 ⟨rfl, rfl⟩
    go_wp2_with fail
    refine (DateRead_form _ _ R).mono ?_
    rintro e w6 ⟨rfl, hb6⟩
    go_wp2_with fail
    go_ret
    exact ⟨by first | rfl | simp, below_on HB.out hb6⟩
  · refine (Read_no _ _ TT.out.1 p q r R hr).mono ?_
    rintro e w5 ⟨rfl, rfl⟩
    go_wp2_with fail
    refine (DateRead_no _ _ p q r R hr).mono ?_
    rintro e w6 ⟨rfl, hb6⟩
    go_wp2_with fail
    go_ret
    exact ⟨by first | rfl | simp, below_on HB.out hb6⟩
  · refine (Read_yes _ _ TT.out.1 p q r R hr).mono ?_
    rintro e w5 ⟨rfl, rfl⟩
    go_wp2_with fail
    refine (DateRead_yes _ _ p q r R hr).mono ?_
    rintro e w6 ⟨rfl, hb6⟩
    go_wp2_with fail
    go_ret
    exact ⟨by first | rfl | simp, below_on HB.out hb6⟩

set_option maxHeartbeats 800000 in
theorem civilReads_in (n k : Int) (s : ByteArray) (w : World) (hT : Tabs w) (y o d y' o' : Int) (hv : vld y o d = true) (H : Hid (num y o d = n)) (hk : -120000 ≤ k) (hk' : k ≤ 120000) (g : gym y' o' = true) (HE : Hid (y' * 12 + o' - 1 = y * 12 + o - 1 + k)) (HL : Hid ((0 ≤ 12 * (y - 1) + o - 1 + k ∧ 12 * (y - 1) + o - 1 + k < 119988) ∧ (12 * (y - 1) + o - 1 + k) / 12 + 1 = y' ∧ (12 * (y - 1) + o - 1 + k) % 12 + 1 = o')) (hR : Reads s) :
    Calls Tryd.prog 3 #[.int .i64 n, .int .i64 k, .string s] w fun e w' => e = .returned (.bool true) ∧ Below w.heap.size w w' := by
  go_enter Tryd.func3, Tryd.ntmps3
  go_wp2_with fail
  refine (Add_to _ y o d _ y' o' _ hT.1 hv H hk hk' HE g).mono ?_
  rintro e w' ⟨rfl, rfl⟩
  go_wp2_with fail
  refine (Later_in _ y o d _ y' o' _ hv H hk hk' HL.out.1.1 HL.out.1.2 HL.out.2.1 HL.out.2.2).mono ?_
  rintro e w' ⟨rfl, rfl⟩
  go_wp2_with fail
  refine (Text_at _ y o d _ hT hv H).mono ?_
  rintro e w1 ⟨rfl, hb1⟩
  have HB : Hid _ := hb1
  have TT : Hid _ := hT.stays hb1
  clear hb1
  go_wp2_with fail
  refine (DateText_at _ y o d _ hv H).mono ?_
  rintro e w2 ⟨rfl, rfl⟩
  go_wp2_with fail
  rcases hR with R | ⟨p, q, r, R, hr⟩ | ⟨p, q, r, R, hr⟩
  · refine (Read_form _ _ R).mono ?_
    rintro e w5 ⟨rfl, rfl⟩
    go_wp2_with fail
    refine (DateRead_form _ _ R).mono ?_
    rintro e w6 ⟨rfl, hb6⟩
    go_wp2_with fail
    go_ret
    exact ⟨by first | rfl | simp, below_on HB.out hb6⟩
  · refine (Read_no _ _ TT.out.1 p q r R hr).mono ?_
    rintro e w5 ⟨rfl, rfl⟩
    go_wp2_with fail
    refine (DateRead_no _ _ p q r R hr).mono ?_
    rintro e w6 ⟨rfl, hb6⟩
    go_wp2_with fail
    go_ret
    exact ⟨by first | rfl | simp, below_on HB.out hb6⟩
  · refine (Read_yes _ _ TT.out.1 p q r R hr).mono ?_
    rintro e w5 ⟨rfl, rfl⟩
    go_wp2_with fail
    refine (DateRead_yes _ _ p q r R hr).mono ?_
    rintro e w6 ⟨rfl, hb6⟩
    go_wp2_with fail
    go_ret
    exact ⟨by first | rfl | simp, below_on HB.out hb6⟩

theorem civilReads_walk (n k : Int) (s : ByteArray) (w : World) (hT : Tabs w) :
    Calls Tryd.prog 3 #[.int .i64 n, .int .i64 k, .string s] w fun e w' => e = .returned (.bool true) ∧ Below w.heap.size w w' := by
  have hR := reads_any s
  rcases (show (n < 0 ∨ 3652058 < n) ∨ (0 ≤ n ∧ n ≤ 3652058) by omega) with h | ⟨h1, h2⟩
  · exact civilReads_day n k s w hT h hR
  obtain ⟨y, o, d, hv, e⟩ := date_ex h1 h2
  obtain ⟨a1, a2, a3, a4, a5, a6⟩ := vld_open hv
  by_cases hk : -120000 ≤ k ∧ k ≤ 120000
  · obtain ⟨k1, k2⟩ := hk
    by_cases hi : 12 ≤ y * 12 + o - 1 + k ∧ y * 12 + o - 1 + k < 120000
    · exact civilReads_in n k s w hT y o d ((12 * (y - 1) + o - 1 + k) / 12 + 1) ((12 * (y - 1) + o - 1 + k) % 12 + 1) hv e k1 k2 (gym_of (by omega) (by omega) (by omega) (by omega)) (show _ = _ by omega) ⟨⟨by omega, by omega⟩, rfl, rfl⟩ hR
    · exact civilReads_out n k s w hT y o d hv e k1 k2 (show _ ∨ _ by omega) (show _ ∨ _ by omega) hR
  · exact civilReads_arg n k s w hT y o d hv e (show _ ∨ _ by omega) hR
end Go.Proofs.YtbcfdleijpicgaaDoor
