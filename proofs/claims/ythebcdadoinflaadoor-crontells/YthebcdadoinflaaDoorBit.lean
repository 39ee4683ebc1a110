/- What the functions of package cron that ask a set of bits answer, for every set, and the library's count of the zeros ahead of the lowest bit: contracts, each proved by a walk over its own text. -/
import Derived.Test.YthebcdadoinflaaDoorProg
import Derived.Test.YthebcdadoinflaaDoorCal
import Derived.Test.YthebcdadoinflaaDoorCrn
import Derived.Test.YthebcdadoinflaaDoorCiv
import Derived.Laws.Bits64b
import Derived.Deep.QuietTactic
import Derived.BigQuiet
import Derived.WalkKit
import Derived.WalkSpells
import Derived.WalkLawsBesides
namespace Go.Proofs.YthebcdadoinflaaDoor
open Go.RowKit Cal Crn

/-- The library's table of places of lowest bits lies in its variable. -/
def TabZ (w : World) : Prop := ∀ j : Nat, j < 64 → w.cell? ⟨1, j, none⟩ = some (.int .u8 (Lib.deBruijn64tab.getD j 0))
/-- The table of the sets of all numbers lies in its variable. -/
def TabC (w : World) : Prop := w.cell? ⟨0, 0, none⟩ = some (.int .u64 1152921504606846975) ∧ w.cell? ⟨0, 1, none⟩ = some (.int .u64 16777215) ∧ w.cell? ⟨0, 2, none⟩ = some (.int .u64 4294967294) ∧ w.cell? ⟨0, 3, none⟩ = some (.int .u64 8190) ∧ w.cell? ⟨0, 4, none⟩ = some (.int .u64 127)
structure Tb (w : World) : Prop where
  m : Tab w
  z : TabZ w
  c : TabC w
theorem cell_size {w : World} {b o : Nat} {v : Value} (h : w.cell? ⟨b, o, none⟩ = some v) : b < w.heap.size := by
  rcases Nat.lt_or_ge b w.heap.size with l | l
  · exact l
  · exfalso
    have e : w.heap[b]? = none := by simp; exact l
    simp [World.cell?, e] at h
theorem Tb.size {w : World} (h : Tb w) : 3 < w.heap.size ∧ 1 < w.heap.size ∧ 0 < w.heap.size :=
  ⟨cell_size (h.m 0 (by omega)), cell_size (h.z 0 (by omega)), cell_size h.c.1⟩
/-- What lies below stays: the tables too. -/
theorem Tb.below {w w' : World} {B : Nat} (h : Tb w) (hb : Below B w w') (hB : w.heap.size ≤ B) : Tb w' := by
  obtain ⟨s1, s2, s3⟩ := h.size
  have c := fun o => hb.cell (p := ⟨0, o, none⟩) (Nat.lt_of_lt_of_le s3 hB)
  exact ⟨fun k hk => (hb.cell (p := ⟨3, k, none⟩) (Nat.lt_of_lt_of_le s1 hB)).trans (h.m k hk), fun k hk => (hb.cell (p := ⟨1, k, none⟩) (Nat.lt_of_lt_of_le s2 hB)).trans (h.z k hk),
    (c 0).trans h.c.1, (c 1).trans h.c.2.1, (c 2).trans h.c.2.2.1, (c 3).trans h.c.2.2.2.1, (c 4).trans h.c.2.2.2.2⟩
theorem Tb.alloc {w : World} (h : Tb w) (o : Obj) : Tb (w.alloc o) := h.below ((Below.refl _ _).alloc (Nat.le_refl _) o) (Nat.le_refl _)

theorem div_cast (s n : Nat) : (s : Int) / 2 ^ n = ((s / 2 ^ n : Nat) : Int) := by simp
theorem and_one (s n : Nat) (hs : s < 18446744073709551616) : (bits BinOp.and IntKind.u64 ((s : Int) / 2 ^ n) 1 == 1) = s.testBit n := by
  have l := div_lt' n hs
  rw [div_cast, show (1 : Int) = ((1 : Nat) : Int) from rfl, bits_and_u64_nat _ _ l (by omega), Nat.and_one_is_mod, Nat.testBit_eq_decide_div_mod_eq]
  generalize s / 2 ^ n = q
  rcases (show q % 2 = 0 ∨ q % 2 = 1 by omega) with e | e <;> rw [e] <;> rfl

set_option maxHeartbeats 400000 in
theorem has_any (s n : Nat) (w : World) (hs : s < 18446744073709551616) (hn : n < 64) :
    Calls Tryd.prog 51 #[.int .u64 s, .int .i64 n] w fun e w' => e = .returned (.bool (s.testBit n)) ∧ w' = w := by
  go_enter Tryd.func51, Tryd.ntmps51
  go_wp2
  go_ret
  exact ⟨ret_bool (and_one s n hs), rfl⟩
/-- The same of a number that is an integer: a place of a set. -/
theorem has_at (s : Nat) (n : Int) (w : World) (hs : s < 18446744073709551616) (h0 : 0 ≤ n) (hn : n < 64) :
    Calls Tryd.prog 51 #[.int .u64 s, .int .i64 n] w fun e w' => e = .returned (.bool (hasB s n)) ∧ w' = w := by
  have h := has_any s n.toNat w hs (by omega)
  rw [show ((n.toNat : Nat) : Int) = n by omega] at h
  exact h

theorem tz_key (x a : Nat) (hx0 : x ≠ 0) (hx : x < 18446744073709551616) (hlow : x &&& (18446744073709551616 - x) = a) :
    IntKind.u64.wrap (bits BinOp.and IntKind.u64 (x : Int) (IntKind.u64.wrap (-(x : Int))) * 285870213051353865) / 288230376151711744 = ((a * 285870213051353865 % 18446744073709551616 / 288230376151711744 : Nat) : Int) := by
  have e1 : IntKind.u64.wrap (-(x : Int)) = ((18446744073709551616 - x : Nat) : Int) := by rw [IntKind.wrap_u64]; omega
  rw [e1, bits_and_u64_nat x _ hx (by omega), hlow, IntKind.wrap_u64]
  omega
set_option maxHeartbeats 1000000 in
theorem tz_core (x k idx : Nat) (w : World) (hx0 : ((x : Int) == 0) = false)
    (key : IntKind.u64.wrap (bits BinOp.and IntKind.u64 (x : Int) (IntKind.u64.wrap (-(x : Int))) * 285870213051353865) / 288230376151711744 = (idx : Int))
    (hi : idx < 64) (hk : k < 64) (hcell : w.cell? ⟨1, idx, none⟩ = some (.int .u8 k)) :
    Calls Tryd.prog 26 #[.int .u64 x] w fun e w' => e = .returned (.int .i64 k) ∧ w' = w := by
  go_enter Tryd.func26, Tryd.ntmps26
  go_wp2_with (simp only [key])
  go_ret
  exact ⟨rfl, rfl⟩
theorem tz_any (x : Nat) (w : World) (hZ : TabZ w) (hx0 : x ≠ 0) (hx : x < 18446744073709551616) :
    Calls Tryd.prog 26 #[.int .u64 x] w fun e w' => e = .returned (.int .i64 (Lib.ctz 64 x)) ∧ w' = w := by
  obtain ⟨hlow, hk⟩ := Lib.lowest_bit 64 x hx0 hx
  obtain ⟨hi, htab⟩ := Lib.deBruijn64_at _ hk
  have hcell := hZ _ hi
  rw [htab] at hcell
  exact tz_core x _ _ w (by simp; omega) (tz_key x _ hx0 hx hlow) hi hk hcell
set_option maxHeartbeats 400000 in
theorem first_any (x : Nat) (w : World) (hZ : TabZ w) (hx0 : x ≠ 0) (hx : x < 18446744073709551616) :
    Calls Tryd.prog 25 #[.int .u64 x] w fun e w' => e = .returned (.int .i64 (Lib.ctz 64 x)) ∧ w' = w := by
  go_enter Tryd.func25, Tryd.ntmps25
  go_wp2_with (go_at_call 26; refine (tz_any _ _ hZ hx0 hx).mono ?_; rintro e w' ⟨rfl, rfl⟩)
  go_ret
  exact ⟨rfl, rfl⟩

theorem below_draws {B : Nat} {a w : World} (h : Below B a w) (n : Nat) : Below B a (w.drewN n) := h.trans ⟨rfl, rfl, rfl, Nat.le_refl _, fun _ _ => rfl⟩
theorem nz {q : Nat} (h : q ≠ 0) : ((q : Int) == 0) = false := by simp; omega
/-- The world behind a struct of a cron that was laid down. -/
theorem below_box (w : World) (o : Obj) : Below w.heap.size w (w.alloc o) := (Below.refl _ _).alloc (Nat.le_refl _) o

set_option maxHeartbeats 400000 in
theorem dayFits_any (c : Cr) (hc : okB c = true) (d k : Int) (w : World) (h1 : 0 ≤ d) (h2 : d < 64) (h3 : 0 ≤ k) (h4 : k < 64) :
    Calls Tryd.prog 52 #[.agg #[.int .u64 c.mi, .int .u64 c.ho, .int .u64 c.dm, .int .u64 c.mo, .int .u64 c.dw], .int .i64 d, .int .i64 k] w fun e w' => e = .returned (.bool (fitB c d k)) ∧ Below w.heap.size w w' := by
  obtain ⟨_, _, _, _, o1, o2, _, _, _, _, o3, o4⟩ := ok_open hc
  unfold fitB
  by_cases e1 : c.dm = 4294967294
  · rw [if_pos e1]
    go_enter Tryd.func52, Tryd.ntmps52
    go_wp2_with (go_at_call 51; refine (has_at _ _ _ (by omega) (by omega) (by omega)).mono ?_; rintro e w' ⟨rfl, rfl⟩)
    go_ret
    exact ⟨rfl, below_box _ _⟩
  · rw [if_neg e1]
    have e1' : ((c.dm : Int) == 4294967294) = false := by simp; omega
    by_cases e2 : c.dw = 127
    · rw [if_pos e2]
      go_enter Tryd.func52, Tryd.ntmps52
      go_wp2_with (go_at_call 51; refine (has_at _ _ _ (by omega) (by omega) (by omega)).mono ?_; rintro e w' ⟨rfl, rfl⟩)
      go_ret
      exact ⟨rfl, below_box _ _⟩
    · rw [if_neg e2]
      have e2' : ((c.dw : Int) == 127) = false := by simp; omega
      by_cases e3 : hasB c.dm d = true
      · go_enter Tryd.func52, Tryd.ntmps52
        go_wp2_with (go_at_call 51; refine (has_at _ _ _ (by omega) (by omega) (by omega)).mono ?_; rintro e w' ⟨rfl, rfl⟩)
        go_ret
        exact ⟨ret_bool (by rw [e3]; rfl), below_box _ _⟩
      · have e3' : hasB c.dm d = false := by simpa using e3
        clear e3
        go_enter Tryd.func52, Tryd.ntmps52
        go_wp2_with (go_at_call 51; refine (has_at _ _ _ (by omega) (by omega) (by omega)).mono ?_; rintro e w' ⟨rfl, rfl⟩)
        go_ret
        exact ⟨ret_bool (by rw [e3']; rfl), below_box _ _⟩
end Go.Proofs.YthebcdadoinflaaDoor
