/- PackTells where the things have a fault. -/
import Derived.Test.YtfnkboegbclnaaaKrs
namespace Go.Proofs.Ytfnkboegbclnaaa
open Go.RowKit
set_option linter.unusedSectionVars false
set_option linter.unusedVariables false

set_option maxHeartbeats 2000000 in
set_option maxRecDepth 100000 in
theorem packTells_bad (q : Option Addr) (l : List Int) (c : Nat) (size : Int) (qb : Option Addr) (B : List Int) (cb : Nat) (w : World) (h : Nums w q l) (hB : Nums w qb B) (hBw : ∀ x ∈ B, (Lit.int .i64 x).wf = true) (hk : kc l size ≠ 0) :
    Calls Try.prog 3 #[.slice q l.length c, .int .i64 size, .slice qb B.length cb] w fun e w' => e = .returned (.bool true) ∧ Below w.heap.size w w' := by
  have hNH : Hid (∀ w', Below w.heap.size w w' → Nums w' q l) := fun w' hb => h.below hb (Nat.le_refl _)
  have hA : Hid (∀ w2, Below w.heap.size w w2 → Calls Try.prog 8 #[.slice q l.length c, .int .i64 size] w2 fun e w' => e = .returned (.tuple #[.slice none 0 0, .int .i64 0, .int .i64 (kc l size)]) ∧ Below w2.heap.size w2 w') := fun w2 hb => First_bad size (hNH.out w2 hb) hk
  have hD : Hid (∀ w2, Below w.heap.size w w2 → Calls Try.prog 9 #[.slice q l.length c, .int .i64 size] w2 fun e w' => e = .returned (.tuple #[.slice none 0 0, .int .i64 0, .int .i64 (kc l size)]) ∧ Below w2.heap.size w2 w') := fun w2 hb => Down_bad size (hNH.out w2 hb) hk
  have hF : Hid (∀ w2, Below w.heap.size w w2 → Calls Try.prog 10 #[.slice q l.length c, .int .i64 size] w2 fun e w' => e = .returned (.tuple #[.int .i64 0, .int .i64 (kc l size)]) ∧ Below w2.heap.size w2 w') := fun w2 hb => Least_bad (c := c) size (hNH.out w2 hb) hk
  have hX : Hid (∀ w2, Below w.heap.size w w2 → Calls Try.prog 11 #[.slice q l.length c, .int .i64 size, .slice qb B.length cb] w2 fun e w' => e = .returned (.tuple #[.int .i64 0, .int .i64 (kc l size)]) ∧ Below w2.heap.size w2 w') := fun w2 hb => by
    have h2 := Boxes_any (c := c) (cb := cb) size (hNH.out w2 hb) (hB.below hb (Nat.le_refl _)) hBw
    have e : bxR l B size = (0, kc l size) := by unfold bxR; rw [if_pos hk]
    rw [e] at h2
    exact h2
  have hT : Hid (∀ w2, Below w.heap.size w w2 → Calls Try.prog 12 #[.slice q l.length c, .int .i64 size] w2 fun e w' => e = .returned (.int .i64 (kc l size)) ∧ w' = w2) := fun w2 hb => fault_any size (hNH.out w2 hb)
  have hC : Hid (∀ w2, Below w.heap.size w w2 → Calls Try.prog 13 #[.slice q l.length c, .int .i64 size] w2 fun e w' => e = .returned (.int .i64 (kc l size)) ∧ Below w2.heap.size w2 w') := fun w2 hb => Check_any size (hNH.out w2 hb)
  have hkb : (kc l size != 0) = true := by simpa using hk
  have hkk : (kc l size == kc l size) = true := by simp
  clear h hB hBw hk
  generalize kc l size = z at *
  have hb0 : Below w.heap.size w w := Below.refl _ _
  go_enter Try.func3, Try.ntmps3
  go_wp2_with (first
    | (go_at_call 8; refine (hA.out _ hb0).mono ?_; rintro e w3 ⟨rfl, hb3⟩; clear hA; have hb4 := hb0.trans (hb3.mono hb0.size))
    | (go_at_call 9; refine (hD.out _ hb4).mono ?_; rintro e w5 ⟨rfl, hb5⟩; clear hD; have hb6 := hb4.trans (hb5.mono hb4.size))
    | (go_at_call 10; refine (hF.out _ hb6).mono ?_; rintro e w7 ⟨rfl, hb7⟩; clear hF; have hb8 := hb6.trans (hb7.mono hb6.size))
    | (go_at_call 11; refine (hX.out _ hb8).mono ?_; rintro e w9 ⟨rfl, hb9⟩; clear hX; have hbX := hb8.trans (hb9.mono hb8.size))
    | (go_at_call 12; refine (hT.out _ hbX).mono ?_; rintro e w10 ⟨rfl, hw10⟩; have hw11 := hw10.symm; subst hw11; clear hT)
    | (go_at_call 13; refine (hC.out _ hbX).mono ?_; rintro e w12 ⟨rfl, hb12⟩; clear hC; have hbY := hbX.trans (hb12.mono hbX.size))
    | fail)
  go_ret
  exact ⟨ret_b (by first | rfl | simp), hbY⟩
end Go.Proofs.Ytfnkboegbclnaaa
