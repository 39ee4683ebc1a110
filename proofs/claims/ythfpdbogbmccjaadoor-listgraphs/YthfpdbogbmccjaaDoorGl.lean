/- Links among things as arrays of sets: steps, ways, the knot. -/
import Derived.Test.YthfpdbogbmccjaaDoorGw
import Derived.Laws.Rows
import Derived.Laws.Tables
namespace Go.Proofs.YthfpdbogbmccjaaDoor
open Go.RowKit Gm
set_option linter.unusedSectionVars false

/-- The cells of links: for each thing the set of those that it leads to. -/
def lk (r : Nat → Nat → Bool) : Array Value := ((List.range 60).map fun (i : Nat) => Value.int .u64 ((bs (r i) 60 : Nat) : Int)).toArray
theorem lk_size (r : Nat → Nat → Bool) : (lk r).size = 60 := by simp [lk]
theorem lk_get (r : Nat → Nat → Bool) {i : Nat} (hi : i < 60) : (lk r)[i]? = some (.int .u64 ((bs (r i) 60 : Nat) : Int)) := by
  simp [lk, hi]
def upd (r : Nat → Nat → Bool) (i : Nat) (p : Nat → Bool) : Nat → Nat → Bool := fun a => if a = i then p else r a
theorem lk_set (r : Nat → Nat → Bool) {i : Nat} (p : Nat → Bool) : (lk r).setIfInBounds i (.int .u64 ((bs p 60 : Nat) : Int)) = lk (upd r i p) := by
  apply Array.ext_getElem?
  intro j
  rw [Array.getElem?_setIfInBounds]
  by_cases hj : j < 60
  · rw [lk_get _ hj, lk_get _ hj, lk_size]
    by_cases e : i = j
    · subst e; simp [upd, hj]
    · rw [if_neg e]; simp [upd, Ne.symm e]
  · have h1 : (lk r)[j]? = none := by simp [lk_size]; omega
    have h2 : (lk (upd r i p))[j]? = none := by simp [lk_size]; omega
    rw [h1, h2]
    split
    · rw [lk_size]; split
      · omega
      · rfl
    · rfl
theorem lk_zero : (#[.int .u64 0, .int .u64 0, .int .u64 0, .int .u64 0, .int .u64 0, .int .u64 0, .int .u64 0, .int .u64 0, .int .u64 0, .int .u64 0, .int .u64 0, .int .u64 0, .int .u64 0, .int .u64 0, .int .u64 0, .int .u64 0, .int .u64 0, .int .u64 0, .int .u64 0, .int .u64 0, .int .u64 0, .int .u64 0, .int .u64 0, .int .u64 0, .int .u64 0, .int .u64 0, .int .u64 0, .int .u64 0, .int .u64 0, .int .u64 0, .int .u64 0, .int .u64 0, .int .u64 0, .int .u64 0, .int .u64 0, .int .u64 0, .int .u64 0, .int .u64 0, .int .u64 0, .int .u64 0, .int .u64 0, .int .u64 0, .int .u64 0, .int .u64 0, .int .u64 0, .int .u64 0, .int .u64 0, .int .u64 0, .int .u64 0, .int .u64 0, .int .u64 0, .int .u64 0, .int .u64 0, .int .u64 0, .int .u64 0, .int .u64 0, .int .u64 0, .int .u64 0, .int .u64 0, .int .u64 0] : Array Value) = lk (fun _ _ => false) := by kernel_rfl
theorem lk_one (r : Nat → Nat → Bool) : (lk r).all (·.oneCell') = true := by simp [lk, Value.oneCell']
theorem lk_info (r : Nat → Nat → Bool) : (Tryd.prog.info? 76).map (·.size) = some (lk r).size := by rw [lk_size]; kernel_rfl
theorem lk_congr {r s : Nat → Nat → Bool} (h : ∀ i j, i < 60 → j < 60 → r i j = s i j) : lk r = lk s := by
  apply Array.ext_getElem?
  intro j
  by_cases hj : j < 60
  · rw [lk_get _ hj, lk_get _ hj, bs_congr fun k hk => h j k hj hk]
  · rw [show (lk r)[j]? = none by simp [lk_size]; omega, show (lk s)[j]? = none by simp [lk_size]; omega]

/-- The edges lie in the block b from o on. -/
structure EdsAt (w : World) (b o : Nat) (l : List Ed) : Prop where
  lt : b < w.heap.size
  cf : ∀ j, j < l.length → w.cell? ⟨b, o + j * 2, none⟩ = some (.int .i64 (ed l j).f)
  ct : ∀ j, j < l.length → w.cell? ⟨b, o + j * 2 + 1, none⟩ = some (.int .i64 (ed l j).t)
/-- A slice of edges: none of them, or they lie somewhere. -/
def Eds (w : World) (q : Option Addr) (l : List Ed) : Prop := l.length = 0 ∨ ∃ b o, q = some ⟨b, o, none⟩ ∧ EdsAt w b o l
theorem EdsAt.below {w w' : World} {b o : Nat} {l : List Ed} {B : Nat} (h : EdsAt w b o l) (hb : Below B w w') (hB : b < B) : EdsAt w' b o l :=
  ⟨Nat.lt_of_lt_of_le h.lt hb.size, fun j hj => (hb.cell (p := ⟨b, o + j * 2, none⟩) hB).trans (h.cf j hj), fun j hj => (hb.cell (p := ⟨b, o + j * 2 + 1, none⟩) hB).trans (h.ct j hj)⟩
theorem Eds.below {w w' : World} {q : Option Addr} {l : List Ed} (h : Eds w q l) {B : Nat} (hb : Below B w w') (hB : w.heap.size ≤ B) : Eds w' q l := by
  rcases h with h0 | ⟨b, o, e, hA⟩
  · exact Or.inl h0
  · exact Or.inr ⟨b, o, e, hA.below hb (Nat.lt_of_lt_of_le hA.lt hB)⟩

theorem wrap_succ {i : Nat} (h : i ≤ 100000) : wrap64 ((i : Int) + 1) = ((i + 1 : Nat) : Int) := by unfold wrap64; omega
theorem meas_w {n i : Nat} (hi : i < n) (h : i ≤ 100000) : n - (intOf (.int .i64 (wrap64 ((i : Int) + 1)))).toNat < n - (intOf (.int .i64 (i : Int))).toNat := by
  rw [wrap_succ h]
  simp [intOf]
  omega
theorem meas_1 {n i : Nat} (hi : i < n) : n - (intOf (.int .i64 ((i : Int) + 1))).toNat < n - (intOf (.int .i64 (i : Int))).toNat := by
  simp [intOf]
  omega
theorem int_succ (i : Nat) : Value.int .i64 ((i : Int) + 1) = .int .i64 ((i + 1 : Nat) : Int) := by simp
theorem int_wsucc {i : Nat} (h : i ≤ 100000) : Value.int .i64 (wrap64 ((i : Int) + 1)) = .int .i64 ((i + 1 : Nat) : Int) := by rw [wrap_succ h]

theorem below_row {B : Nat} {w w' : World} (h : Below B w w') {g : Nat} (hg : B ≤ g) {cs : Array Value} : Below B w (w'.setRow g cs) :=
  ⟨h.os, h.tape, h.output, by have := h.size; simpa [World.setRow] using this, fun k hk => (setRow_other w' g k cs (by omega)).trans (h.block k hk)⟩

def cu (E : Nat → Nat → Bool) (m i : Nat) : Nat → Nat → Bool := fun a => if a < i then vB E (m + 1) a else vB E m a
theorem cu_zero (E : Nat → Nat → Bool) (m : Nat) : cu E m 0 = vB E m := by funext a; simp [cu]
theorem cu_end (E : Nat → Nat → Bool) (m : Nat) : lk (cu E m 60) = lk (vB E (m + 1)) := lk_congr fun a k ha _ => by simp [cu, ha]
theorem cu_at (E : Nat → Nat → Bool) (m i : Nat) : cu E m i i = vB E m i := by simp [cu]
theorem vB_self (E : Nat → Nat → Bool) (m j : Nat) : vB E (m + 1) m j = vB E m m j := by
  simp only [vB]
  cases vB E m m j <;> simp
theorem cu_by (E : Nat → Nat → Bool) (m i : Nat) : cu E m i m = vB E m m := by
  unfold cu
  split
  · funext j; exact vB_self E m j
  · rfl
theorem cu_no {E : Nat → Nat → Bool} {m i : Nat} (h : vB E m i m = false) : lk (cu E m i) = lk (cu E m (i + 1)) := lk_congr fun a k _ _ => by
  unfold cu
  by_cases e : a = i
  · subst e
    simp [vB, h]
  · by_cases e2 : a < i
    · rw [if_pos e2, if_pos (by omega)]
    · rw [if_neg e2, if_neg (by omega)]
theorem cu_yes {E : Nat → Nat → Bool} {m i : Nat} (h : vB E m i m = true) : lk (upd (cu E m i) i (fun j => vB E m i j || vB E m m j)) = lk (cu E m (i + 1)) := lk_congr fun a k _ _ => by
  unfold upd cu
  by_cases e : a = i
  · subst e
    simp [vB, h]
  · rw [if_neg e]
    by_cases e2 : a < i
    · rw [if_pos e2, if_pos (by omega)]
    · rw [if_neg e2, if_neg (by omega)]

end Go.Proofs.YthfpdbogbmccjaaDoor
