/- The reference of package pack: FewestBoxes whole; pack.Least's number is the fewest boxes. -/
import Derived.Test.YtfnkboegbclnaaaKrg
namespace Go.Proofs.Ytfnkboegbclnaaa
open Go.RowKit
set_option linter.unusedSectionVars false
set_option linter.unusedVariables false

theorem few_of_one {size x : Int} (hx : x ≤ size) (h0 : 0 ≤ size) : FewB size [x] 1 := by
  refine ⟨way_all h0 (fun y hy => by rw [List.mem_singleton.1 hy]; exact hx), fun K hK => ?_⟩
  obtain ⟨f, hf, _⟩ := hK
  have := hf 0 (by simp)
  omega

set_option maxHeartbeats 2000000 in
set_option maxRecDepth 100000 in
theorem few_one {size : Int} (hs : 1 ≤ size ∧ size ≤ 1099511627776) (w : World) (gq oq : Nat) (x : Int) (hq : Nums w (some ⟨gq, oq, none⟩) [x]) (hx : 1 ≤ x ∧ x ≤ size) :
    Calls Try.prog 18 #[.slice (some ⟨gq, oq, none⟩) 1 1, .int .i64 size] w fun e w' => (∃ r : Nat, Hid (FewB size [x] r ∧ r ≤ 1) ∧ e = .returned (.int .i64 (r : Int))) ∧ Below w.heap.size w w' := by
  have hqH : Hid (∀ w1, Below w.heap.size w w1 → w1.cell? ⟨gq, oq, none⟩ = some (.int .i64 x)) := fun w1 hb => by
    rcases hq.below hb (Nat.le_refl _) with h0 | ⟨b, o, e, hA⟩
    · simp at h0
    · cases e
      have := hA.c 0 (by simp)
      rwa [Nat.add_zero] at this
  have hres : Hid (FewB size [x] 1 ∧ 1 ≤ 1) := ⟨few_of_one hx.2 (by omega), Nat.le_refl _⟩
  have hxH : Hid (x ≤ size) := hx.2
  have hcall : Hid (∀ w1, Calls Try.prog 18 #[.slice none 0 0, .int .i64 size] w1 fun e w' => e = .returned (.int .i64 0) ∧ Below w1.heap.size w1 w') := fun w1 =>
    (few_nil size w1 none 0 [] rfl (Or.inl rfl) (Nat.le_refl _) (fun y hy => by cases hy)).mono fun e w' ⟨⟨r, hr, he⟩, hb⟩ => ⟨by rw [he]; have := hr.out.2; rw [show r = 0 by omega]; rfl, hb⟩
  clear hq hx hs
  go_enter Try.func18, Try.ntmps18
  go_wp2
  go_loopg [5, 22] 1 (fun gz bv sv wr => ∃ s : Nat, sv = .int .i64 s ∧ bv = .int .i64 1 ∧ 1 - s ≤ gz ∧ Hid (s ≤ 1) ∧ Hid (Below w.heap.size w wr))
  case atStart => exact ⟨0, rfl, rfl, by omega, Nat.zero_le _, Below.refl _ _⟩
  case round =>
    obtain ⟨s, rfl, rfl, hgz, hs, hbl⟩ := hrel
    by_cases hs0 : s < 1
    · have e : s = 0 := by omega
      subst e
      have zx := hqH.out wr hbl.out
      go_wp2
      clear zx
      go_loopg [8, 9, 30] 0 (fun gz2 fv lv iv wq => iv = .int .i64 0 ∧ fv = .int .i64 x ∧ lv = .slice none 0 0 ∧ wq = wr)
      case atStart => exact ⟨rfl, rfl, rfl, rfl⟩
      case round =>
        obtain ⟨rfl, rfl, rfl, hwq⟩ := hrel
        have hwq2 := hwq
        subst hwq2
        have hxd : decide (x ≤ size) = true := decide_eq_true hxH.out
        go_wp2_with (first
          | (go_at_call 18; refine (hcall.out _).mono ?_; rintro e w9 ⟨rfl, hb9⟩; clear hcall)
          | fail)
        have hbl9 : Hid (Below w.heap.size w w9) := hbl.out.trans (hb9.mono hbl.out.size)
        go_roundg 0
        case measure => omega
        case rel => exact ⟨1, by first | rfl | exact int_succ 0 | simp, by first | rfl | simp, by omega, Nat.le_refl _, hbl9⟩
    · have e : s = 1 := by have := hs.out; omega
      subst e
      go_wp2
      go_ret
      exact ⟨⟨1, hres, rfl⟩, hbl.out⟩
end Go.Proofs.Ytfnkboegbclnaaa
