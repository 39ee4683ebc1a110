/- What package cron's Check answers, for every cron: a contract, proved by a walk over its own text. -/
import Derived.Test.YthebcdadoinflaaDoorMat
import Derived.Laws.BitsAllLaws
namespace Go.Proofs.YthebcdadoinflaaDoor
open Go.RowKit Cal Crn

theorem and_split (a m n : Nat) : a &&& m = 2 ^ n * ((a / 2 ^ n) &&& (m / 2 ^ n)) + ((a % 2 ^ n) &&& (m % 2 ^ n)) := by
  rw [← Nat.and_div_two_pow, ← Nat.and_mod_two_pow]
  exact (Nat.div_add_mod _ _).symm
theorem and_top (a n : Nat) (hn : n ≤ 64) (ha : a < 18446744073709551616) (r : Nat) (hr : r < 2 ^ n) : a &&& (2 ^ n * (2 ^ (64 - n) - 1) + r) = 2 ^ n * (a / 2 ^ n) + (a % 2 ^ n &&& r) := by
  have hp : 0 < 2 ^ n := Nat.two_pow_pos n
  rw [and_split a _ n, Nat.mul_add_div hp, Nat.div_eq_of_lt hr, Nat.mul_add_mod, Nat.mod_eq_of_lt hr, Nat.add_zero, Nat.and_two_pow_sub_one_eq_mod, Nat.mod_eq_of_lt]
  rw [Nat.div_lt_iff_lt_mul hp, ← Nat.pow_add, show 64 - n + n = 64 by omega]
  exact ha
/-- What Check asks of a set: not empty, and none but these numbers. -/
def outB (x : Nat) (all : Nat) : Bool := !(bits .andNot .u64 (x : Int) (all : Int) == 0)
theorem out_low (x n all : Nat) (hn : n ≤ 64) (hx : x < 18446744073709551616) (ha : all < 18446744073709551616) (e : 18446744073709551615 - all = 2 ^ n * (2 ^ (64 - n) - 1) + 0) : outB x all = false ↔ x < 2 ^ n := by
  have hp : 0 < 2 ^ n := Nat.two_pow_pos n
  unfold outB
  rw [u64_andNot_nat x all hx ha, e, and_top x n hn hx 0 hp, Nat.and_zero]
  have hd : x / 2 ^ n = 0 ↔ x < 2 ^ n := by rw [Nat.div_eq_zero_iff]; omega
  rw [← hd]
  generalize x / 2 ^ n = q
  have hq : 2 ^ n * q = 0 ↔ q = 0 := by rw [Nat.mul_eq_zero]; omega
  generalize 2 ^ n * q = p at *
  simp
  omega
theorem out_even (x n all : Nat) (hn : n ≤ 64) (hn1 : 1 ≤ n) (hx : x < 18446744073709551616) (ha : all < 18446744073709551616) (e : 18446744073709551615 - all = 2 ^ n * (2 ^ (64 - n) - 1) + 1) : outB x all = false ↔ x < 2 ^ n ∧ x % 2 = 0 := by
  have hp : 0 < 2 ^ n := Nat.two_pow_pos n
  have h1 : 1 < 2 ^ n := Nat.one_lt_two_pow (by omega)
  unfold outB
  rw [u64_andNot_nat x all hx ha, e, and_top x n hn hx 1 h1]
  have hm : x % 2 ^ n % 2 = x % 2 := Nat.mod_mod_of_dvd _ (Nat.dvd_of_pow_dvd hn1 (Nat.dvd_refl _))
  rw [Nat.and_one_is_mod, hm]
  have hd : x / 2 ^ n = 0 ↔ x < 2 ^ n := by rw [Nat.div_eq_zero_iff]; omega
  rw [← hd]
  generalize x / 2 ^ n = q
  have hq : 2 ^ n * q = 0 ↔ q = 0 := by rw [Nat.mul_eq_zero]; omega
  generalize 2 ^ n * q = p at *
  simp
  omega

def allN : Nat → Nat | 0 => 1152921504606846975 | 1 => 16777215 | 2 => 4294967294 | 3 => 8190 | _ => 127
def setN (c : Cr) : Nat → Nat | 0 => c.mi | 1 => c.ho | 2 => c.dm | 3 => c.mo | _ => c.dw
structure In5 (c : Cr) : Prop where
  a : c.mi < 18446744073709551616
  b : c.ho < 18446744073709551616
  d : c.dm < 18446744073709551616
  e : c.mo < 18446744073709551616
  f : c.dw < 18446744073709551616
theorem in5_ok {c : Cr} (h : okB c = true) : In5 c := by
  obtain ⟨_, a, _, b, _, d, _, _, e, _, _, f⟩ := ok_open h
  exact ⟨by omega, by omega, by omega, by omega, by omega⟩
/-- Is the set of that number faulty? -/
def badB (c : Cr) (k : Nat) : Bool := (setN c k == 0) || outB (setN c k) (allN k)
theorem ok_iff {c : Cr} (h : In5 c) : okB c = true ↔ ∀ k, k < 5 → badB c k = false := by
  have f0 := out_low c.mi 60 1152921504606846975 (by omega) h.a (by omega) (by decide)
  have f1 := out_low c.ho 24 16777215 (by omega) h.b (by omega) (by decide)
  have f2 := out_even c.dm 32 4294967294 (by omega) (by omega) h.d (by omega) (by decide)
  have f3 := out_even c.mo 13 8190 (by omega) (by omega) h.e (by omega) (by decide)
  have f4 := out_low c.dw 7 127 (by omega) h.f (by omega) (by decide)
  constructor
  · intro ho k hk
    obtain ⟨a1, a2, b1, b2, d1, d2, d3, e1, e2, e3, g1, g2⟩ := ok_open ho
    rcases (show k = 0 ∨ k = 1 ∨ k = 2 ∨ k = 3 ∨ k = 4 by omega) with e | e | e | e | e <;> subst e <;> simp only [badB, setN, allN, Bool.or_eq_false_iff]
    · exact ⟨by simp; omega, f0.2 a2⟩
    · exact ⟨by simp; omega, f1.2 b2⟩
    · exact ⟨by simp; omega, f2.2 ⟨d2, d3⟩⟩
    · exact ⟨by simp; omega, f3.2 ⟨e2, e3⟩⟩
    · exact ⟨by simp; omega, f4.2 g2⟩
  · intro ha
    have k0 := ha 0 (by omega)
    have k1 := ha 1 (by omega)
    have k2 := ha 2 (by omega)
    have k3 := ha 3 (by omega)
    have k4 := ha 4 (by omega)
    simp only [badB, setN, allN, Bool.or_eq_false_iff] at k0 k1 k2 k3 k4
    have a2 := f0.1 k0.2
    have b2 := f1.1 k1.2
    have d2 := f2.1 k2.2
    have e2 := f3.1 k3.2
    have g2 := f4.1 k4.2
    simp at k0 k1 k2 k3 k4
    exact decide_eq_true ⟨by omega, a2, by omega, b2, by omega, d2.1, d2.2, by omega, e2.1, e2.2, by omega, g2⟩

theorem at5 (v0 v1 v2 v3 v4 : Value) (w : World) :
    (Instr.index 37 (.agg #[v0, v1, v2, v3, v4]) (.int .i64 0)).run Tryd.prog w = .ok v0 w ∧ (Instr.index 37 (.agg #[v0, v1, v2, v3, v4]) (.int .i64 1)).run Tryd.prog w = .ok v1 w ∧ (Instr.index 37 (.agg #[v0, v1, v2, v3, v4]) (.int .i64 2)).run Tryd.prog w = .ok v2 w ∧ (Instr.index 37 (.agg #[v0, v1, v2, v3, v4]) (.int .i64 3)).run Tryd.prog w = .ok v3 w ∧ (Instr.index 37 (.agg #[v0, v1, v2, v3, v4]) (.int .i64 4)).run Tryd.prog w = .ok v4 w :=
  ⟨by kernel_rfl, by kernel_rfl, by kernel_rfl, by kernel_rfl, by kernel_rfl⟩
theorem bad_no {x all : Nat} (h : ((x == 0) || outB x all) = false) : ((x : Int) == 0) = false ∧ bits .andNot .u64 (x : Int) (all : Int) = 0 := by
  rw [Bool.or_eq_false_iff] at h
  refine ⟨nz (by simpa using h.1), ?_⟩
  have := h.2
  unfold outB at this
  simpa using this
theorem bad_yes {x all : Nat} (h : ((x == 0) || outB x all) = true) (hz : ((x : Int) == 0) = false) : (bits .andNot .u64 (x : Int) (all : Int) == 0) = false := by
  rw [Bool.or_eq_true] at h
  rcases h with e | e
  · simp at e
    subst e
    simp at hz
  · unfold outB at e
    simpa using e

theorem TabC.below {w w' : World} {B : Nat} (h : TabC w) (hb : Below B w w') (hB : w.heap.size ≤ B) : TabC w' := by
  have s3 := cell_size h.1
  have c := fun o => hb.cell (p := ⟨0, o, none⟩) (Nat.lt_of_lt_of_le s3 hB)
  exact ⟨(c 0).trans h.1, (c 1).trans h.2.1, (c 2).trans h.2.2.1, (c 3).trans h.2.2.2.1, (c 4).trans h.2.2.2.2⟩

set_option maxHeartbeats 2000000 in
theorem CheckC_yes (c : Cr) (hc : okB c = true) (w : World) (hT : TabC w) :
    Calls Tryd.prog 10 #[.agg #[.int .u64 c.mi, .int .u64 c.ho, .int .u64 c.dm, .int .u64 c.mo, .int .u64 c.dw]] w fun e w' => e = .returned (.int .i64 0) ∧ Below w.heap.size w w' := by
  have ha := (ok_iff (in5_ok hc)).1 hc
  go_enter Tryd.func10, Tryd.ntmps10
  go_wp2_with fail
  refine (setsOf_any _ _ _ _ _ _).mono ?_
  rintro e w1 ⟨rfl, hb⟩
  have hb1 : Below w.heap.size w w1 := (below_box w _).trans (hb.mono (by simp))
  have hT1 := hT.below hb1 (Nat.le_refl _)
  clear hb
  go_wp2
  go_loop [7] (fun i => ∃ k : Nat, k ≤ 5 ∧ i = .int .i64 k) (fun i => 5 - (intOf i).toNat)
  case atStart => exact ⟨0, by omega, rfl⟩
  case round =>
    obtain ⟨k, hk, rfl⟩ := hrel
    rcases (show k = 5 ∨ k = 0 ∨ k = 1 ∨ k = 2 ∨ k = 3 ∨ k = 4 by omega) with e | e | e | e | e | e <;> subst e
    · go_wp2
      go_ret
      exact ⟨rfl, hb1⟩
    · obtain ⟨hz, ho0⟩ := bad_no (ha 0 (by omega))
      have ho : bits .andNot .u64 (c.mi : Int) 1152921504606846975 = 0 := ho0
      have hz' : ((c.mi : Int) == 0) = false := hz
      have hcell := hT1.1
      have hix := fun w => (at5 (.int .u64 c.mi) (.int .u64 c.ho) (.int .u64 c.dm) (.int .u64 c.mo) (.int .u64 c.dw) w).1
      clear ho0 hz
      go_wp2
      go_round
      case rel => exact ⟨1, by omega, by go_num⟩
      case measure => simp [intOf]
    · obtain ⟨hz, ho0⟩ := bad_no (ha 1 (by omega))
      have ho : bits .andNot .u64 (c.ho : Int) 16777215 = 0 := ho0
      have hz' : ((c.ho : Int) == 0) = false := hz
      have hcell := hT1.2.1
      have hix := fun w => (at5 (.int .u64 c.mi) (.int .u64 c.ho) (.int .u64 c.dm) (.int .u64 c.mo) (.int .u64 c.dw) w).2.1
      clear ho0 hz
      go_wp2
      go_round
      case rel => exact ⟨2, by omega, by go_num⟩
      case measure => simp [intOf]
    · obtain ⟨hz, ho0⟩ := bad_no (ha 2 (by omega))
      have ho : bits .andNot .u64 (c.dm : Int) 4294967294 = 0 := ho0
      have hz' : ((c.dm : Int) == 0) = false := hz
      have hcell := hT1.2.2.1
      have hix := fun w => (at5 (.int .u64 c.mi) (.int .u64 c.ho) (.int .u64 c.dm) (.int .u64 c.mo) (.int .u64 c.dw) w).2.2.1
      clear ho0 hz
      go_wp2
      go_round
      case rel => exact ⟨3, by omega, by go_num⟩
      case measure => simp [intOf]
    · obtain ⟨hz, ho0⟩ := bad_no (ha 3 (by omega))
      have ho : bits .andNot .u64 (c.mo : Int) 8190 = 0 := ho0
      have hz' : ((c.mo : Int) == 0) = false := hz
      have hcell := hT1.2.2.2.1
      have hix := fun w => (at5 (.int .u64 c.mi) (.int .u64 c.ho) (.int .u64 c.dm) (.int .u64 c.mo) (.int .u64 c.dw) w).2.2.2.1
      clear ho0 hz
      go_wp2
      go_round
      case rel => exact ⟨4, by omega, by go_num⟩
      case measure => simp [intOf]
    · obtain ⟨hz, ho0⟩ := bad_no (ha 4 (by omega))
      have ho : bits .andNot .u64 (c.dw : Int) 127 = 0 := ho0
      have hz' : ((c.dw : Int) == 0) = false := hz
      have hcell := hT1.2.2.2.2
      have hix := fun w => (at5 (.int .u64 c.mi) (.int .u64 c.ho) (.int .u64 c.dm) (.int .u64 c.mo) (.int .u64 c.dw) w).2.2.2.2
      clear ho0 hz
      go_wp2
      go_round
      case rel => exact ⟨5, by omega, by go_num⟩
      case measure => simp [intOf]

set_option maxHeartbeats 2000000 in
theorem CheckC_no (c : Cr) (h5 : In5 c) (hc : okB c = false) (w : World) (hT : TabC w) :
    Calls Tryd.prog 10 #[.agg #[.int .u64 c.mi, .int .u64 c.ho, .int .u64 c.dm, .int .u64 c.mo, .int .u64 c.dw]] w fun e w' => e = .returned (.int .i64 3) ∧ Below w.heap.size w w' := by
  go_enter Tryd.func10, Tryd.ntmps10
  go_wp2_with fail
  refine (setsOf_any _ _ _ _ _ _).mono ?_
  rintro e w1 ⟨rfl, hb⟩
  have hb1 : Below w.heap.size w w1 := (below_box w _).trans (hb.mono (by simp))
  have hT1 := hT.below hb1 (Nat.le_refl _)
  clear hb
  go_wp2
  go_loop [7] (fun i => ∃ k : Nat, k ≤ 5 ∧ i = .int .i64 k ∧ ∀ j, j < k → badB c j = false) (fun i => 5 - (intOf i).toNat)
  case atStart => exact ⟨0, by omega, rfl, fun j hj => by omega⟩
  case round =>
    obtain ⟨k, hk, rfl, hj⟩ := hrel
    rcases (show k = 5 ∨ k = 0 ∨ k = 1 ∨ k = 2 ∨ k = 3 ∨ k = 4 by omega) with e | e | e | e | e | e <;> subst e
    · exfalso
      have := (ok_iff h5).2 hj
      rw [hc] at this
      cases this
    · have hcell := hT1.1
      have hix := fun w => (at5 (.int .u64 c.mi) (.int .u64 c.ho) (.int .u64 c.dm) (.int .u64 c.mo) (.int .u64 c.dw) w).1
      by_cases hbad : badB c 0 = true
      · by_cases hz : ((c.mi : Int) == 0) = true
        · go_wp2
          go_ret
          exact ⟨rfl, hb1⟩
        · have hz' : ((c.mi : Int) == 0) = false := by simpa using hz
          have ho : (bits .andNot .u64 (c.mi : Int) 1152921504606846975 == 0) = false := bad_yes (all := 1152921504606846975) hbad hz'
          clear hz hbad
          go_wp2
          go_ret
          exact ⟨rfl, hb1⟩
      · have hbn : badB c 0 = false := by simpa using hbad
        obtain ⟨hz, ho0⟩ := bad_no hbn
        have ho : bits .andNot .u64 (c.mi : Int) 1152921504606846975 = 0 := ho0
        have hz' : ((c.mi : Int) == 0) = false := hz
        have HB : Hid (badB c 0 = false) := hbn
        clear ho0 hz hbad hbn
        go_wp2
        go_round
        case rel => exact ⟨1, by omega, by go_num, fun j hjj => by rcases (show j < 0 ∨ j = 0 by omega) with l | l; (exact hj j l); (subst l; exact HB.out)⟩
        case measure => simp [intOf]
    · have hcell := hT1.2.1
      have hix := fun w => (at5 (.int .u64 c.mi) (.int .u64 c.ho) (.int .u64 c.dm) (.int .u64 c.mo) (.int .u64 c.dw) w).2.1
      by_cases hbad : badB c 1 = true
      · by_cases hz : ((c.ho : Int) == 0) = true
        · go_wp2
          go_ret
          exact ⟨rfl, hb1⟩
        · have hz' : ((c.ho : Int) == 0) = false := by simpa using hz
          have ho : (bits .andNot .u64 (c.ho : Int) 16777215 == 0) = false := bad_yes (all := 16777215) hbad hz'
          clear hz hbad
          go_wp2
          go_ret
          exact ⟨rfl, hb1⟩
      · have hbn : badB c 1 = false := by simpa using hbad
        obtain ⟨hz, ho0⟩ := bad_no hbn
        have ho : bits .andNot .u64 (c.ho : Int) 16777215 = 0 := ho0
        have hz' : ((c.ho : Int) == 0) = false := hz
        have HB : Hid (badB c 1 = false) := hbn
        clear ho0 hz hbad hbn
        go_wp2
        go_round
        case rel => exact ⟨2, by omega, by go_num, fun j hjj => by rcases (show j < 1 ∨ j = 1 by omega) with l | l; (exact hj j l); (subst l; exact HB.out)⟩
        case measure => simp [intOf]
    · have hcell := hT1.2.2.1
      have hix := fun w => (at5 (.int .u64 c.mi) (.int .u64 c.ho) (.int .u64 c.dm) (.int .u64 c.mo) (.int .u64 c.dw) w).2.2.1
      by_cases hbad : badB c 2 = true
      · by_cases hz : ((c.dm : Int) == 0) = true
        · go_wp2
          go_ret
          exact ⟨rfl, hb1⟩
        · have hz' : ((c.dm : Int) == 0) = false := by simpa using hz
          have ho : (bits .andNot .u64 (c.dm : Int) 4294967294 == 0) = false := bad_yes (all := 4294967294) hbad hz'
          clear hz hbad
          go_wp2
          go_ret
          exact ⟨rfl, hb1⟩
      · have hbn : badB c 2 = false := by simpa using hbad
        obtain ⟨hz, ho0⟩ := bad_no hbn
        have ho : bits .andNot .u64 (c.dm : Int) 4294967294 = 0 := ho0
        have hz' : ((c.dm : Int) == 0) = false := hz
        have HB : Hid (badB c 2 = false) := hbn
        clear ho0 hz hbad hbn
        go_wp2
        go_round
        case rel => exact ⟨3, by omega, by go_num, fun j hjj => by rcases (show j < 2 ∨ j = 2 by omega) with l | l; (exact hj j l); (subst l; exact HB.out)⟩
        case measure => simp [intOf]
    · have hcell := hT1.2.2.2.1
      have hix := fun w => (at5 (.int .u64 c.mi) (.int .u64 c.ho) (.int .u64 c.dm) (.int .u64 c.mo) (.int .u64 c.dw) w).2.2.2.1
      by_cases hbad : badB c 3 = true
      · by_cases hz : ((c.mo : Int) == 0) = true
        · go_wp2
          go_ret
          exact ⟨rfl, hb1⟩
        · have hz' : ((c.mo : Int) == 0) = false := by simpa using hz
          have ho : (bits .andNot .u64 (c.mo : Int) 8190 == 0) = false := bad_yes (all := 8190) hbad hz'
          clear hz hbad
          go_wp2
          go_ret
          exact ⟨rfl, hb1⟩
      · have hbn : badB c 3 = false := by simpa using hbad
        obtain ⟨hz, ho0⟩ := bad_no hbn
        have ho : bits .andNot .u64 (c.mo : Int) 8190 = 0 := ho0
        have hz' : ((c.mo : Int) == 0) = false := hz
        have HB : Hid (badB c 3 = false) := hbn
        clear ho0 hz hbad hbn
        go_wp2
        go_round
        case rel => exact ⟨4, by omega, by go_num, fun j hjj => by rcases (show j < 3 ∨ j = 3 by omega) with l | l; (exact hj j l); (subst l; exact HB.out)⟩
        case measure => simp [intOf]
    · have hcell := hT1.2.2.2.2
      have hix := fun w => (at5 (.int .u64 c.mi) (.int .u64 c.ho) (.int .u64 c.dm) (.int .u64 c.mo) (.int .u64 c.dw) w).2.2.2.2
      by_cases hbad : badB c 4 = true
      · by_cases hz : ((c.dw : Int) == 0) = true
        · go_wp2
          go_ret
          exact ⟨rfl, hb1⟩
        · have hz' : ((c.dw : Int) == 0) = false := by simpa using hz
          have ho : (bits .andNot .u64 (c.dw : Int) 127 == 0) = false := bad_yes (all := 127) hbad hz'
          clear hz hbad
          go_wp2
          go_ret
          exact ⟨rfl, hb1⟩
      · have hbn : badB c 4 = false := by simpa using hbad
        obtain ⟨hz, ho0⟩ := bad_no hbn
        have ho : bits .andNot .u64 (c.dw : Int) 127 = 0 := ho0
        have hz' : ((c.dw : Int) == 0) = false := hz
        have HB : Hid (badB c 4 = false) := hbn
        clear ho0 hz hbad hbn
        go_wp2
        go_round
        case rel => exact ⟨5, by omega, by go_num, fun j hjj => by rcases (show j < 4 ∨ j = 4 by omega) with l | l; (exact hj j l); (subst l; exact HB.out)⟩
        case measure => simp [intOf]
theorem Check_yes (c : Cr) (hc : okB c = true) (w : World) (hT : Tb w) :
    Calls Tryd.prog 10 #[.agg #[.int .u64 c.mi, .int .u64 c.ho, .int .u64 c.dm, .int .u64 c.mo, .int .u64 c.dw]] w fun e w' => e = .returned (.int .i64 0) ∧ Below w.heap.size w w' := CheckC_yes c hc w hT.c
theorem Check_no (c : Cr) (h5 : In5 c) (hc : okB c = false) (w : World) (hT : Tb w) :
    Calls Tryd.prog 10 #[.agg #[.int .u64 c.mi, .int .u64 c.ho, .int .u64 c.dm, .int .u64 c.mo, .int .u64 c.dw]] w fun e w' => e = .returned (.int .i64 3) ∧ Below w.heap.size w w' := CheckC_no c h5 hc w hT.c
end Go.Proofs.YthebcdadoinflaaDoor
