/- The calls of package graph that look at ways: Check, Knot, Reach. -/
import Derived.Test.YthfpdbogbmccjaaDoorGl
namespace Go.Proofs.YthfpdbogbmccjaaDoor
open Go.RowKit Gm
set_option linter.unusedSectionVars false

theorem thing_yes (n i : Int) (w : World) (h0 : 0 ≤ i) (h1 : i < n) : Calls Tryd.prog 32 #[.int .i64 n, .int .i64 i] w fun e w' => e = .returned (.bool true) ∧ w' = w := by
  go_enter Tryd.func32, Tryd.ntmps32
  go_wp2
  go_ret
  exact ⟨rfl, rfl⟩
theorem thing_no (n i : Int) (w : World) (h : i < 0 ∨ n ≤ i) : Calls Tryd.prog 32 #[.int .i64 n, .int .i64 i] w fun e w' => e = .returned (.bool false) ∧ w' = w := by
  by_cases h0 : i < 0
  · clear h
    go_enter Tryd.func32, Tryd.ntmps32
    go_wp2
    go_ret
    exact ⟨rfl, rfl⟩
  · have h1 : ¬ i < n := by omega
    have h2 : 0 ≤ i := by omega
    have h3 : decide (i < n) = false := by simpa using h1
    clear h
    go_enter Tryd.func32, Tryd.ntmps32
    go_wp2
    go_ret
    exact ⟨by first | rfl | exact ret_b h3, rfl⟩

def kn (r : Nat → Nat → Bool) (i j : Nat) : Bool := decide (j < i) && r j j
theorem kn_zero (r : Nat → Nat → Bool) : bs (kn r 0) 60 = 0 := bs_zero.2 fun j _ => by simp [kn]
theorem kn_succ (r : Nat → Nat → Bool) (i : Nat) : bs (fun j => kn r i j || (r i j && decide (j = i))) 60 = bs (kn r (i + 1)) 60 := bs_congr fun j _ => by
  unfold kn
  by_cases e : j = i
  · subst e; simp
  · have : decide (j < i + 1) = decide (j < i) := by rw [decide_eq_decide]; omega
    simp [e, this]

theorem all_take {n : Int} {l : List Ed} {j : Nat} (hj : j < l.length) (h : okE n (l.take j) = true) (h2 : okI n (ed l j) = true) : okE n (l.take (j + 1)) = true := by
  rw [Gm.take_snoc hj]
  unfold okE at *
  rw [List.all_append, h]
  simp [h2]
theorem all_no {n : Int} {l : List Ed} {j : Nat} (hj : j < l.length) (h2 : okI n (ed l j) = false) : okE n l = false := by
  unfold okE
  rw [List.all_eq_false]
  exact ⟨ed l j, ed_mem hj, by rw [h2]; simp⟩

set_option maxHeartbeats 1000000 in
set_option maxRecDepth 100000 in
theorem check_any (n : Int) {w : World} {q : Option Addr} {l : List Ed} {cap : Nat} (h : Eds w q l) :
    Calls Tryd.prog 18 #[.int .i64 n, .slice q l.length cap] w fun e w' => e = .returned (.int .i64 (chk n l)) ∧ Below w.heap.size w w' := by
  by_cases h1 : n < 0
  · have e : chk n l = 1 := by simp [chk, h1]
    rw [e]
    clear h e
    go_enter Tryd.func18, Tryd.ntmps18
    go_wp2
    go_ret
    exact ⟨rfl, Below.refl _ _⟩
  by_cases h2 : 60 < n
  · have e : chk n l = 1 := by simp [chk, h2]
    rw [e]
    clear h e
    go_enter Tryd.func18, Tryd.ntmps18
    go_wp2
    go_ret
    exact ⟨rfl, Below.refl _ _⟩
  by_cases h3 : 400 < l.length
  · have e : chk n l = 2 := by simp [chk, h1, h2, h3]
    rw [e]
    have h3i : (400 : Int) < (l.length : Int) := by omega
    clear h e
    go_enter Tryd.func18, Tryd.ntmps18
    go_wp2
    go_ret
    exact ⟨rfl, Below.refl _ _⟩
  have h3i : ¬ (400 : Int) < (l.length : Int) := by omega
  have hlen' : Hid (l.length ≤ 400) := by show _ ≤ _; omega
  have hchk : Hid (chk n l = if okE n l = true then 0 else 4) := by show _ = _; simp [chk, h1, h2, h3]
  go_enter Tryd.func18, Tryd.ntmps18
  go_wp2
  go_loopw [18] (fun iv wr => ∃ j : Nat, iv = .int .i64 j ∧ j ≤ l.length ∧ Hid (okE n (l.take j) = true) ∧ Below w.heap.size w wr)
    (fun iv _ => l.length - (intOf iv).toNat)
  case atStart => exact ⟨0, rfl, Nat.zero_le _, (by show _ = _; simp [okE]), Below.refl _ _⟩
  case round =>
    obtain ⟨j, rfl, hjl, hall, hbl⟩ := hrel
    by_cases hj : j < l.length
    · rcases h with h0 | ⟨b, o, rfl, hA⟩
      · omega
      have hAr := hA.below hbl hA.lt
      have z0 := hAr.cf j hj
      have z1 := hAr.ct j hj
      have hji : (j : Int) < (l.length : Int) := by omega
      have hj2 : Hid (j ≤ 100000) := by have := hlen'.out; show _ ≤ _; omega
      have hyes : Hid (okI n (ed l j) = true → okE n (l.take (j + 1)) = true) := fun h2 => all_take hj hall.out h2
      have hno : Hid (okI n (ed l j) = false → chk n l = 4) := fun h2 => by rw [hchk.out, all_no hj h2]; rfl
      have hdef : Hid (okI n (ed l j) = decide (0 ≤ (ed l j).f ∧ (ed l j).f < n ∧ 0 ≤ (ed l j).t ∧ (ed l j).t < n)) := rfl
      generalize okI n (ed l j) = ok at *
      generalize (ed l j).f = F at *
      generalize (ed l j).t = T at *
      have hbz : Hid (Below w.heap.size w (wr.alloc (.cells #[.int .i64 F, .int .i64 T] 52))) := hbl.alloc hbl.size _
      clear hA hAr hchk hall
      by_cases hF : 0 ≤ F ∧ F < n
      · have ty := fun w => thing_yes n F w hF.1 hF.2
        by_cases hT : 0 ≤ T ∧ T < n
        · have tz := fun w => thing_yes n T w hT.1 hT.2
          have hok : ok = true := by rw [hdef.out]; simp; omega
          have hyes' : Hid (okE n (l.take (j + 1)) = true) := hyes.out hok
          clear hyes hno hdef hok hF hT
          go_wp2_with (first
            | (go_at_call 32; first | (refine (ty _).mono ?_; rintro e w' ⟨rfl, hw'⟩; have hw'' := hw'.symm; subst hw''; clear ty) | (refine (tz _).mono ?_; rintro e w' ⟨rfl, hw'⟩; have hw'' := hw'.symm; subst hw''))
            | go_in)
          refine ⟨⟨j + 1, ?_, hj, hyes', hbz.out⟩, ?_⟩
          · first | exact int_succ j | exact int_wsucc hj2.out
          · first | exact meas_1 hj | exact meas_w hj hj2.out
        · have tz := fun w => thing_no n T w (by omega)
          have hok : ok = false := by rw [hdef.out]; simp; omega
          have hno' : Hid (chk n l = 4) := hno.out hok
          clear hyes hno hdef hok hF hT
          go_wp2_with (first
            | (go_at_call 32; first | (refine (ty _).mono ?_; rintro e w' ⟨rfl, hw'⟩; have hw'' := hw'.symm; subst hw''; clear ty) | (refine (tz _).mono ?_; rintro e w' ⟨rfl, hw'⟩; have hw'' := hw'.symm; subst hw''))
            | go_in)
          go_ret
          rw [hno'.out]
          exact ⟨rfl, hbz.out⟩
      · have ty := fun w => thing_no n F w (by omega)
        have hok : ok = false := by rw [hdef.out]; simp; omega
        have hno' : Hid (chk n l = 4) := hno.out hok
        clear hyes hno hdef hok hF
        go_wp2_with (first
          | (go_at_call 32; refine (ty _).mono ?_; rintro e w' ⟨rfl, hw'⟩; have hw'' := hw'.symm; subst hw'')
          | go_in)
        go_ret
        rw [hno'.out]
        exact ⟨rfl, hbz.out⟩
    · have hji : ¬ (j : Int) < (l.length : Int) := by omega
      have e : j = l.length := by omega
      subst e
      have hfin : Hid (chk n l = 0) := by
        have := hall.out
        rw [List.take_length] at this
        show _ = _
        rw [hchk.out, this]; rfl
      clear h hchk hall
      go_wp2
      go_ret
      rw [hfin.out]
      exact ⟨rfl, hbl⟩
end Go.Proofs.YthfpdbogbmccjaaDoor
