/- Order, walked: those that are free, the least of them, one by one. -/
import Derived.Test.YthfpdbogbmccjaaDoorGn
namespace Go.Proofs.YthfpdbogbmccjaaDoor
open Go.RowKit Gm
set_option linter.unusedSectionVars false

theorem pow_bs {n : Nat} (hn : n ≤ 60) : 2 ^ n - 1 = bs (fun j => decide (j < n)) 60 := by
  have h1 : 2 ^ n ≤ 2 ^ 60 := Nat.pow_le_pow_right (by omega) hn
  have h2 := Nat.two_pow_pos n
  exact bs_eq (by omega) fun j _ => by rw [Nat.testBit_two_pow_sub_one]
theorem first_any (n : Nat) (w : World) (hn : n ≤ 60) : Calls Tryd.prog 35 #[.int .i64 (n : Int)] w fun e w' => e = .returned (.int .u64 ((bs (fun j => decide (j < n)) 60 : Nat) : Int)) ∧ w' = w := by
  have hc := one_any n w (by omega)
  have hp := Nat.two_pow_pos n
  have hl : 2 ^ n ≤ 2 ^ 60 := Nat.pow_le_pow_right (by omega) hn
  have hs : Hid (IntKind.u64.wrap (((2 ^ n : Nat) : Int) - 1) = ((bs (fun j => decide (j < n)) 60 : Nat) : Int)) := by
    show _ = _
    rw [← pow_bs hn, IntKind.wrap_u64]
    generalize (2 : Nat) ^ n = y at *
    omega
  generalize ((2 ^ n : Nat) : Int) = y at *
  clear hp hl
  go_enter Tryd.func35, Tryd.ntmps35
  go_wp2_with (go_at_call 34; refine hc.mono ?_; rintro e w' ⟨rfl, rfl⟩)
  go_ret
  exact ⟨ret_u hs.out, rfl⟩

/-- None of a set p is ahead of i. -/
def nob (p : Nat → Bool) (r : Nat → Nat → Bool) (i : Nat) : Bool := decide (bs (fun j => r i j && p j) 60 = 0)
def fr (p : Nat → Bool) (r : Nat → Nat → Bool) (k i : Nat) : Bool := decide (i ∈ (bl p 60).take k) && nob p r i
theorem fr_zero (p : Nat → Bool) (r : Nat → Nat → Bool) : bs (fr p r 0) 60 = 0 := bs_zero.2 fun j _ => by simp [fr]
def bn (L : List Nat) (k : Nat) : Nat := L.getD k 0
theorem bn_get {L : List Nat} {k : Nat} (hk : k < L.length) : bn L k = L[k] := by simp [bn, hk]
theorem fr_no {p : Nat → Bool} {r : Nat → Nat → Bool} {k : Nat} (hk : k < (bl p 60).length) (h : nob p r (bn (bl p 60) k) = false) : bs (fr p r k) 60 = bs (fr p r (k + 1)) 60 := bs_congr fun j _ => by
  unfold fr
  rw [← List.take_append_getElem hk, ← bn_get hk]
  by_cases e : j = bn (bl p 60) k
  · subst e; simp [h]
  · simp [e]
theorem fr_yes {p : Nat → Bool} {r : Nat → Nat → Bool} {k : Nat} (hk : k < (bl p 60).length) (h : nob p r (bn (bl p 60) k) = true) : bs (fun j => fr p r k j || decide (j = bn (bl p 60) k)) 60 = bs (fr p r (k + 1)) 60 := bs_congr fun j _ => by
  unfold fr
  rw [← List.take_append_getElem hk, ← bn_get hk]
  by_cases e : j = bn (bl p 60) k
  · subst e; simp [h]
  · simp [e]
theorem fr_end (p : Nat → Bool) (r : Nat → Nat → Bool) : bs (fr p r (bl p 60).length) 60 = bs (fun i => p i && nob p r i) 60 := bs_congr fun j hj => by
  unfold fr
  rw [List.take_length]
  congr 1
  rw [Bool.eq_iff_iff]
  simp [mem_bl, hj]
theorem bn_lt {p : Nat → Bool} {k : Nat} (hk : k < (bl p 60).length) : bn (bl p 60) k < 60 := by
  rw [bn_get hk]
  exact (mem_bl.1 (List.getElem_mem hk)).1
theorem ints_get {L : List Nat} {k : Nat} (hk : k < L.length) : (ints L)[k]? = some (.int .i64 ((bn L k : Nat) : Int)) := by simp [ints, hk, bn_get hk]
theorem row_at {w : World} {B : Nat} {p : Option Addr} {L : List Nat} {n c : Nat} (h : w.ownsRow B 3 1 (.slice p n c) n (ints L)) (hn : L.length = n) {k : Nat} (hk : k < n) : ∃ g, p = some ⟨g, 0, none⟩ ∧ w.cell? ⟨g, k, none⟩ = some (.int .i64 ((bn L k : Nat) : Int)) ∧ B ≤ g := by
  rcases h.2 with ⟨_, h0⟩ | ⟨g, cap, cur, hv, hB, _⟩
  · omega
  · obtain ⟨rfl, rfl⟩ : p = some ⟨g, 0, none⟩ ∧ c = cap := by simpa using hv
    exact ⟨g, rfl, by rw [h.cellAt k (by omega), ints_get (by omega)], hB⟩
theorem row_below {w w' : World} {B : Nat} {e : TypeId} {size : Nat} {v : Value} {n : Nat} {xs : List Value} (h : w.ownsRow B e size v n xs) (hK : Below w.heap.size w w') : w'.ownsRow B e size v n xs :=
  h.kept (w' := w') (row := none) ⟨hK.os, hK.tape, hK.output, hK.size, fun k hk _ => hK.block k hk⟩ (by cases hv : v.ownBlock <;> simp)

set_option maxHeartbeats 1000000 in
set_option maxRecDepth 100000 in
theorem free_any (p : Nat → Bool) (r : Nat → Nat → Bool) (w : World) (hZ : TabZ w) :
    Calls Tryd.prog 36 #[.int .u64 ((bs p 60 : Nat) : Int), .agg (lk r)] w fun e w' => e = .returned (.int .u64 ((bs (fun i => p i && nob p r i) 60 : Nat) : Int)) ∧ Below w.heap.size w w' := by
  have hn := heap_alloc_new w (.cells (lk r) 76)
  have hb : Below w.heap.size w (w.alloc (.cells (lk r) 76)) := (Below.refl _ _).alloc (Nat.le_refl _) _
  have hls := list_any p (w.alloc (.cells (lk r) 76)) (hZ.below hb (Nat.le_refl _))
  have hsw : w.heap.size < (w.alloc (.cells (lk r) 76)).heap.size := by simp
  have hx := bs_lt64 p
  clear hx hZ
  go_enter Tryd.func36, Tryd.ntmps36
  go_wp2_with (first
    | (go_at_call 45; refine hls.mono ?_; rintro e w2 ⟨p2, c2, rfl, hr2, hb2⟩; clear hls)
    | go_in)
  have hB2 : Below w.heap.size w w2 := hb.trans (hb2.mono hb.size)
  have hk2 : w2.heap[w.heap.size]? = some (.cells (lk r) 76 (0, 0)) := (hb2.block _ hsw).trans hn
  clear hn hb hsw hb2
  have hlen : Hid ((bl p 60).length ≤ 60) := bl_len p 60
  generalize hL : bl p 60 = L at *
  have hLH : Hid (bl p 60 = L) := hL
  clear hL
  go_loopw [5, 11] (fun sv iv wr => ∃ k : Nat, iv = .int .i64 k ∧ sv = .int .u64 ((bs (fr p r k) 60 : Nat) : Int) ∧ k ≤ L.length ∧ wr = w2)
    (fun _ iv _ => L.length - (intOf iv).toNat)
  case atStart => exact ⟨0, rfl, by rw [fr_zero]; rfl, Nat.zero_le _, rfl⟩
  case round =>
    obtain ⟨k, rfl, rfl, hk, rfl⟩ := hrel
    by_cases hkl : k < L.length
    · have hki : (k : Int) < (L.length : Int) := by omega
      have hk2' : Hid (k ≤ 100000) := by have := hlen.out; show _ ≤ _; omega
      obtain ⟨g, rfl, c1, _⟩ := row_at hr2 rfl hkl
      have hx60 : bn L k < 60 := by have := bn_lt (p := p) (k := k) (by rw [hLH.out]; exact hkl); rwa [hLH.out] at this
      have c2 : wr.cell? ⟨w.heap.size, bn L k, none⟩ = some (.int .u64 ((bs (r (bn L k)) 60 : Nat) : Int)) := (cell_of_row wr _ _ _ _ _ hk2).trans (lk_get _ hx60)
      have hand := and_bs (r (bn L k)) p
      have hone := fun w => oneS_any (bn L k) w hx60
      have hor := or_bs (fr p r k) (fun j => decide (j = bn L k))
      have hno : Hid (nob p r (bn L k) = false → bs (fr p r k) 60 = bs (fr p r (k + 1)) 60) := fun h => fr_no (by rw [hLH.out]; exact hkl) (by rw [hLH.out]; exact h)
      have hyes : Hid (nob p r (bn L k) = true → bs (fun j => fr p r k j || decide (j = bn L k)) 60 = bs (fr p r (k + 1)) 60) := fun h => by
        have := fr_yes (p := p) (r := r) (k := k) (by rw [hLH.out]; exact hkl) (by rw [hLH.out]; exact h)
        rwa [hLH.out] at this
      have hdef : Hid (nob p r (bn L k) = decide (bs (fun j => r (bn L k) j && p j) 60 = 0)) := rfl
      have hxi : ((bn L k : Nat) : Int) < 60 := by omega
      generalize nob p r (bn L k) = nb at *
      generalize bs (fun j => r (bn L k) j && p j) 60 = a at *
      generalize bs (r (bn L k)) 60 = b at *
      generalize bs (fun j => fr p r k j || decide (j = bn L k)) 60 = c at *
      generalize bs (fun j => decide (j = bn L k)) 60 = d at *
      generalize bn L k = x at *
      generalize bs p 60 = y at *
      by_cases ha : a = 0
      · have hnb : nb = true := by rw [hdef.out, ha]; rfl
        have hy' : Hid (c = bs (fr p r (k + 1)) 60) := hyes.out hnb
        have hai : ((a : Nat) : Int) = 0 := by omega
        clear hno hyes hdef hnb ha
        generalize bs (fr p r k) 60 = f at *
        go_wp2_with (first | (go_at_call 34; refine (hone _).mono ?_; rintro e w' ⟨rfl, hw'⟩; have hw'' := hw'.symm; subst hw'') | go_in)
        refine ⟨⟨k + 1, ?_, by rw [← hy'.out], hkl, trivial⟩, ?_⟩
        · first | exact int_succ k | exact int_wsucc hk2'.out
        · first | exact meas_1 hkl | exact meas_w hkl hk2'.out
      · have hnb : nb = false := by rw [hdef.out]; simpa using ha
        have hy' : Hid (bs (fr p r k) 60 = bs (fr p r (k + 1)) 60) := hno.out hnb
        have hai : ((((a : Nat) : Int)) == 0) = false := by simp; omega
        clear hno hyes hdef hnb ha
        generalize bs (fr p r k) 60 = f at *
        go_wp2_with (first | (go_at_call 34; refine (hone _).mono ?_; rintro e w' ⟨rfl, hw'⟩; have hw'' := hw'.symm; subst hw'') | go_in)
        refine ⟨⟨k + 1, ?_, by rw [← hy'.out], hkl, trivial⟩, ?_⟩
        · first | exact int_succ k | exact int_wsucc hk2'.out
        · first | exact meas_1 hkl | exact meas_w hkl hk2'.out
    · have hki : ¬ (k : Int) < (L.length : Int) := by omega
      have e : k = (bl p 60).length := by rw [hLH.out]; omega
      have hfin : Hid (((bs (fr p r k) 60 : Nat) : Int) = ((bs (fun i => p i && nob p r i) 60 : Nat) : Int)) := by show _ = _; rw [e, fr_end]
      clear e
      generalize ((bs (fr p r k) 60 : Nat) : Int) = f at *
      go_wp2
      go_ret
      exact ⟨ret_u hfin.out, hB2⟩
end Go.Proofs.YthfpdbogbmccjaaDoor
