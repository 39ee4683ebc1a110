/- The reference's fault of a graph is what Check tells. -/
import Derived.Test.YthfpdbogbmccjaaDoorGcl
namespace Go.Proofs.YthfpdbogbmccjaaDoor
open Go.RowKit Gm
set_option linter.unusedSectionVars false
set_option linter.unusedVariables false

set_option maxHeartbeats 2000000 in
set_option maxRecDepth 100000 in
theorem fault_any (n : Int) {w : World} {q : Option Addr} {l : List Ed} {cap : Nat} (h : Eds w q l) :
    Calls Tryd.prog 15 #[.int .i64 n, .int .i64 n, .slice q l.length cap] w fun e w' => e = .returned (.int .i64 (chk n l)) ∧ Below w.heap.size w w' := by
  by_cases h1 : n < 0
  · have e : chk n l = 1 := by simp [chk, h1]
    rw [e]
    clear h e
    go_enter Tryd.func15, Tryd.ntmps15
    go_wp2
    go_ret
    exact ⟨rfl, Below.refl _ _⟩
  by_cases h2 : 60 < n
  · have e : chk n l = 1 := by simp [chk, h2]
    rw [e]
    clear h e
    go_enter Tryd.func15, Tryd.ntmps15
    go_wp2
    go_ret
    exact ⟨rfl, Below.refl _ _⟩
  by_cases h3 : 400 < l.length
  · have e : chk n l = 2 := by simp [chk, h1, h2, h3]
    rw [e]
    have h3i : (400 : Int) < (l.length : Int) := by omega
    clear h e
    go_enter Tryd.func15, Tryd.ntmps15
    go_wp2
    go_ret
    exact ⟨rfl, Below.refl _ _⟩
  have h3i : ¬ (400 : Int) < (l.length : Int) := by omega
  have hlen' : Hid (l.length ≤ 400) := by show _ ≤ _; omega
  have hchk : Hid (chk n l = if okE n l = true then 0 else 4) := by show _ = _; simp [chk, h1, h2, h3]
  go_enter Tryd.func15, Tryd.ntmps15
  go_wp2
  go_loopw [28] (fun iv wr => ∃ j : Nat, iv = .int .i64 j ∧ j ≤ l.length ∧ Hid (okE n (l.take j) = true) ∧ Below w.heap.size w wr)
    (fun iv _ => l.length - (intOf iv).toNat)
  case atStart => exact ⟨0, rfl, Nat.zero_le _, (by show _ = _; simp [okE]), Below.refl _ _⟩
  case round =>
    obtain ⟨j, rfl, hjl, hall, hbl⟩ := hrel
    by_cases hj : j < l.length
    · rcases h with h0 | ⟨b, o, rfl, hA⟩
      · omega
      have hAr := hA.below hbl hA.lt
      have z0 := hAr.cf j hj
      have z1 := hAr.ct j hj
      have hji : (j : Int) < (l.length : Int) := by omega
      have hj2 : Hid (j ≤ 100000) := by have := hlen'.out; show _ ≤ _; omega
      have hyes : Hid (okI n (ed l j) = true → okE n (l.take (j + 1)) = true) := fun h2 => all_take hj hall.out h2
      have hno : Hid (okI n (ed l j) = false → chk n l = 4) := fun h2 => by rw [hchk.out, all_no hj h2]; rfl
      have hdef : Hid (okI n (ed l j) = decide (0 ≤ (ed l j).f ∧ (ed l j).f < n ∧ 0 ≤ (ed l j).t ∧ (ed l j).t < n)) := rfl
      generalize okI n (ed l j) = ok at *
      generalize (ed l j).f = F at *
      generalize (ed l j).t = T at *
      have hbz : Hid (Below w.heap.size w (wr.alloc (.cells #[.int .i64 F, .int .i64 T] 52))) := hbl.alloc hbl.size _
      clear hA hAr hchk hall
      have hok : (F < 0 ∨ n ≤ F ∨ T < 0 ∨ n ≤ T) → ok = false := fun h => by rw [hdef.out]; simp; omega
      by_cases c1 : F < 0
      · have hno' : Hid (chk n l = 4) := hno.out (hok (by omega))
        clear hyes hno hdef hok
        go_wp2
        go_ret
        rw [hno'.out]
        exact ⟨rfl, hbz.out⟩
      by_cases c2 : n ≤ F
      · have hno' : Hid (chk n l = 4) := hno.out (hok (by omega))
        clear hyes hno hdef hok
        go_wp2
        go_ret
        rw [hno'.out]
        exact ⟨rfl, hbz.out⟩
      by_cases c3 : T < 0
      · have hno' : Hid (chk n l = 4) := hno.out (hok (by omega))
        clear hyes hno hdef hok
        go_wp2
        go_ret
        rw [hno'.out]
        exact ⟨rfl, hbz.out⟩
      by_cases c4 : n ≤ T
      · have hno' : Hid (chk n l = 4) := hno.out (hok (by omega))
        clear hyes hno hdef hok
        go_wp2
        go_ret
        rw [hno'.out]
        exact ⟨rfl, hbz.out⟩
      have hyes' : Hid (okE n (l.take (j + 1)) = true) := hyes.out (by rw [hdef.out]; simp; omega)
      clear hyes hno hdef hok
      go_wp2
      refine ⟨⟨j + 1, ?_, hj, hyes', hbz.out⟩, ?_⟩
      · first | exact int_succ j | exact int_wsucc hj2.out
      · first | exact meas_1 hj | exact meas_w hj hj2.out
    · have hji : ¬ (j : Int) < (l.length : Int) := by omega
      have e : j = l.length := by omega
      subst e
      have hfin : Hid (chk n l = 0) := by
        show _ = _
        rw [hchk.out, if_pos (by have := hall.out; rwa [List.take_length] at this)]
      clear hall hchk
      go_wp2
      go_ret
      rw [hfin.out]
      exact ⟨rfl, hbl⟩
end Go.Proofs.YthfpdbogbmccjaaDoor
