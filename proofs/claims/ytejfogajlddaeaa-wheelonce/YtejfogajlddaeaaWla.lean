/- What the laws of the wheel share: that the wheel is alive, the acts that are handed in, and a wheel's calls in the words of a law. -/
import Derived.Test.YtejfogajlddaeaaWhv
namespace Go.Proofs.Ytejfogajlddaeaa
open Go.RowKit Go.Maps Go.Shelf Go.Lib Go.Sort Whm
set_option linter.unusedSectionVars false
variable [Inhabited Tm]

/-- An act: its kind, its name, its rank, its time. -/
structure Ac where
  k : Int
  i : Int
  p : Int
  a : Int

variable [Inhabited Ac]

/-- The acts lie in the block b from o on. -/
structure ActsAt (w : World) (b o : Nat) (l : List Ac) : Prop where
  lt : b < w.heap.size
  ck : ∀ j, j < l.length → w.cell? ⟨b, o + j * 4, none⟩ = some (.int .i64 l[j]!.k)
  ci : ∀ j, j < l.length → w.cell? ⟨b, o + j * 4 + 1, none⟩ = some (.int .i64 l[j]!.i)
  cp : ∀ j, j < l.length → w.cell? ⟨b, o + j * 4 + 2, none⟩ = some (.int .i64 l[j]!.p)
  ca : ∀ j, j < l.length → w.cell? ⟨b, o + j * 4 + 3, none⟩ = some (.int .i64 l[j]!.a)
  wi : ∀ j, j < l.length → (Lit.int .i64 l[j]!.i).wf = true
  wa : ∀ j, j < l.length → -9223372036854775808 ≤ l[j]!.a ∧ l[j]!.a < 9223372036854775808

/-- A slice of acts: none of them, or they lie somewhere. -/
def Acts (w : World) (q : Option Addr) (l : List Ac) : Prop := l.length = 0 ∨ ∃ b o, q = some ⟨b, o, none⟩ ∧ ActsAt w b o l

theorem wrap_succ {i : Nat} (h : i ≤ 100000) : wrap64 ((i : Int) + 1) = ((i + 1 : Nat) : Int) := by unfold wrap64; omega
theorem meas_w {n i : Nat} (hi : i < n) (h : i ≤ 100000) : n - (intOf (.int .i64 (wrap64 ((i : Int) + 1)))).toNat < n - (intOf (.int .i64 (i : Int))).toNat := by
  rw [wrap_succ h]
  simp [intOf]
  omega
theorem meas_1 {n i : Nat} (hi : i < n) : n - (intOf (.int .i64 ((i : Int) + 1))).toNat < n - (intOf (.int .i64 (i : Int))).toNat := by
  simp [intOf]
  omega
theorem int_succ (i : Nat) : Value.int .i64 ((i : Int) + 1) = .int .i64 ((i + 1 : Nat) : Int) := by simp
theorem int_wsucc {i : Nat} (h : i ≤ 100000) : Value.int .i64 (wrap64 ((i : Int) + 1)) = .int .i64 ((i + 1 : Nat) : Int) := by rw [wrap_succ h]
theorem drewN_below {B : Nat} {w wz : World} (h : Below B w wz) (q : Nat) : Below B w (wz.drewN q) := ⟨h.os, h.tape, h.output, h.size, h.block⟩

theorem wheels_any (w : World) : Calls Try.prog 7 #[] w fun e w' => e = .returned (.bool true) ∧ Below w.heap.size w w' := by
  have hadd : ∀ (w : World) (pb bm : Nat), Whl w pb bm ⟨0, 0, []⟩ → Calls Try.prog 10 #[.pointer (some ⟨pb, 0, none⟩), .int .i64 3, .int .i64 7] w fun e w' => e = .returned (.int .i64 0) ∧ Whl w' pb bm ⟨0, 1, [⟨3, 7, 0⟩]⟩ ∧ Kp pb bm w w' := fun w pb bm h =>
    add_any h (Ok.new 0) (by omega) (by omega) (by decide)
  have hnext : ∀ (w : World) (pb bm : Nat), Whl w pb bm ⟨0, 1, [⟨3, 7, 0⟩]⟩ → Calls Try.prog 13 #[.pointer (some ⟨pb, 0, none⟩)] w fun e w' => e = .returned (.tuple #[.int .i64 3, .bool true]) ∧ Below w.heap.size w w' := fun w pb bm h => next_any h
  go_enter Try.func7, Try.ntmps7
  go_wp2_with (first
    | (go_at_call 8; refine (new_any _).mono ?_; rintro e w1 ⟨rfl, hW, hb1⟩)
    | (go_at_call 10; refine (hadd _ _ _ hW).mono ?_; rintro e w2 ⟨rfl, hW2, hK2⟩)
    | (go_at_call 13; refine (hnext _ _ _ hW2).mono ?_; rintro e w3 ⟨rfl, hb3⟩))
  go_ret
  have h12 : Below w.heap.size w1 w2 := hK2.below (by omega) (Nat.le_refl _) (Nat.le_of_lt hW.ltm)
  exact ⟨rfl, (hb1.trans h12).trans (hb3.mono (Nat.le_trans (Nat.le_of_lt hW.ltm) hK2.size))⟩
end Go.Proofs.Ytejfogajlddaeaa
