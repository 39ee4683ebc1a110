/- Sets of things and links among them, as the program holds them: one, has, least, the list of a set. -/
import Derived.Test.YthfpdbogbmccjaaDoorGm
import Derived.Test.YthfpdbogbmccjaaDoorChecked
import Derived.Laws.Bits64b
import Derived.Laws.Bits128
import Derived.Laws.BitsAllLaws
import Derived.Deep.QuietTactic
import Derived.BigQuiet
import Derived.WalkKit
import Derived.WalkSpells
import Derived.WalkLawsBesides
import Derived.StillTailTactics
import Derived.Maps.AppendAt
namespace Go.Proofs.YthfpdbogbmccjaaDoor
open Go.RowKit Gm
set_option linter.unusedSectionVars false

/-- The library's table of places of lowest bits lies in its variable. -/
def TabZ (w : World) : Prop := ∀ j : Nat, j < 64 → w.cell? ⟨0, j, none⟩ = some (.int .u8 (Lib.deBruijn64tab.getD j 0))
theorem TabZ.lt {w : World} (h : TabZ w) : 0 < w.heap.size := World.block_lt_of_cell? w _ (h 0 (by omega))
theorem TabZ.below {w w' : World} {B : Nat} (h : TabZ w) (hb : Below B w w') (hB : w.heap.size ≤ B) : TabZ w' := fun k hk => (hb.cell (p := ⟨0, k, none⟩) (Nat.lt_of_lt_of_le h.lt hB)).trans (h k hk)
theorem TabZ.kept {w w' : World} (h : TabZ w) (hk : w'.heap[0]? = w.heap[0]?) : TabZ w' := fun k hk' => by rw [World.cell?_of_block (w := w) (a := ⟨0, k, none⟩) hk]; exact h k hk'

theorem tz_key (x a : Nat) (hx0 : x ≠ 0) (hx : x < 18446744073709551616) (hlow : x &&& (18446744073709551616 - x) = a) :
    IntKind.u64.wrap (bits BinOp.and IntKind.u64 (x : Int) (IntKind.u64.wrap (-(x : Int))) * 285870213051353865) / 288230376151711744 = ((a * 285870213051353865 % 18446744073709551616 / 288230376151711744 : Nat) : Int) := by
  have e1 : IntKind.u64.wrap (-(x : Int)) = ((18446744073709551616 - x : Nat) : Int) := by rw [IntKind.wrap_u64]; omega
  rw [e1, bits_and_u64_nat x _ hx (by omega), hlow, IntKind.wrap_u64]
  omega
set_option maxHeartbeats 1000000 in
theorem tz_core (x k idx : Nat) (w : World) (hx0 : ((x : Int) == 0) = false)
    (key : IntKind.u64.wrap (bits BinOp.and IntKind.u64 (x : Int) (IntKind.u64.wrap (-(x : Int))) * 285870213051353865) / 288230376151711744 = (idx : Int))
    (hi : idx < 64) (hk : k < 64) (hcell : w.cell? ⟨0, idx, none⟩ = some (.int .u8 k)) :
    Calls Tryd.prog 46 #[.int .u64 x] w fun e w' => e = .returned (.int .i64 k) ∧ w' = w := by
  go_enter Tryd.func46, Tryd.ntmps46
  go_wp2_with (simp only [key])
  go_ret
  exact ⟨rfl, rfl⟩
theorem tz_any (x : Nat) (w : World) (hZ : TabZ w) (hx0 : x ≠ 0) (hx : x < 18446744073709551616) :
    Calls Tryd.prog 46 #[.int .u64 x] w fun e w' => e = .returned (.int .i64 (Lib.ctz 64 x)) ∧ w' = w := by
  obtain ⟨hlow, hk⟩ := Lib.lowest_bit 64 x hx0 hx
  obtain ⟨hi, htab⟩ := Lib.deBruijn64_at _ hk
  have hcell := hZ _ hi
  rw [htab] at hcell
  exact tz_core x _ _ w (by simp; omega) (tz_key x _ hx0 hx hlow) hi hk hcell

theorem least_any (x : Nat) (w : World) (hZ : TabZ w) (hx0 : x ≠ 0) (hx : x < 18446744073709551616) :
    Calls Tryd.prog 37 #[.int .u64 x] w fun e w' => e = .returned (.int .i64 (Lib.ctz 64 x)) ∧ w' = w := by
  go_enter Tryd.func37, Tryd.ntmps37
  go_wp2_with (go_at_call 46; refine (tz_any _ _ hZ hx0 hx).mono ?_; rintro e w' ⟨rfl, rfl⟩)
  go_ret
  exact ⟨rfl, rfl⟩

theorem pow_i {t : Nat} (ht : t < 64) : IntKind.u64.wrap (2 ^ t) = ((2 ^ t : Nat) : Int) := by
  have h : (2 : Nat) ^ t < 18446744073709551616 := Nat.pow_lt_pow_right (n := 64) (by omega) ht
  have e : ((2 : Int) ^ t) = ((2 ^ t : Nat) : Int) := by simp
  rw [e, IntKind.wrap_u64]
  generalize (2 : Nat) ^ t = y at h
  omega
theorem ret_u {a b : Int} (h : a = b) : Ending.returned (.int .u64 a) = .returned (.int .u64 b) := by rw [h]
theorem ret_b {a b : Bool} (h : a = b) : Ending.returned (.bool a) = .returned (.bool b) := by rw [h]
theorem one_any (t : Nat) (w : World) (ht : t < 64) : Calls Tryd.prog 34 #[.int .i64 (t : Int)] w fun e w' => e = .returned (.int .u64 ((2 ^ t : Nat) : Int)) ∧ w' = w := by
  go_enter Tryd.func34, Tryd.ntmps34
  go_wp2
  go_ret
  exact ⟨ret_u (pow_i ht), rfl⟩
/-- One alone, as a set. -/
theorem oneS_any (t : Nat) (w : World) (ht : t < 60) : Calls Tryd.prog 34 #[.int .i64 (t : Int)] w fun e w' => e = .returned (.int .u64 ((bs (fun j => decide (j = t)) 60 : Nat) : Int)) ∧ w' = w := by
  have := one_any t w (by omega)
  rwa [bs_one ht] at this
theorem or_bs (p q : Nat → Bool) : bits BinOp.or IntKind.u64 ((bs p 60 : Nat) : Int) ((bs q 60 : Nat) : Int) = ((bs (fun j => p j || q j) 60 : Nat) : Int) := by
  rw [bits_or_u64_nat _ _ (bs_lt64 p) (bs_lt64 q), bs_or]
theorem and_bs (p q : Nat → Bool) : bits BinOp.and IntKind.u64 ((bs p 60 : Nat) : Int) ((bs q 60 : Nat) : Int) = ((bs (fun j => p j && q j) 60 : Nat) : Int) := by
  rw [bits_and_u64_nat _ _ (bs_lt64 p) (bs_lt64 q), bs_and]
theorem andNot_bs (p q : Nat → Bool) : bits BinOp.andNot IntKind.u64 ((bs p 60 : Nat) : Int) ((bs q 60 : Nat) : Int) = ((bs (fun j => p j && !q j) 60 : Nat) : Int) := by
  rw [u64_andNot_nat _ _ (bs_lt64 p) (bs_lt64 q)]
  congr 1
  refine bs_eq (Nat.lt_of_le_of_lt Nat.and_le_left (bs_lt p 60)) fun j hj => ?_
  have hq := bs_lt64 q
  rw [Nat.testBit_and, testBit_bs, show 18446744073709551615 - bs q 60 = 2 ^ 64 - (bs q 60 + 1) by omega, Nat.testBit_two_pow_sub_succ hq, testBit_bs]
  have : j < 64 := by omega
  simp [hj, this]

def s1 (x : Int) : Int := IntKind.u64.wrap (bits BinOp.and IntKind.u64 (x / 2) 6148914691236517205 + bits BinOp.and IntKind.u64 x 6148914691236517205)
def s2 (x : Int) : Int := IntKind.u64.wrap (bits BinOp.and IntKind.u64 (x / 4) 3689348814741910323 + bits BinOp.and IntKind.u64 x 3689348814741910323)
def s3 (x : Int) : Int := bits BinOp.and IntKind.u64 (IntKind.u64.wrap (x / 16 + x)) 1085102592571150095
def s4 (x : Int) : Int := IntKind.u64.wrap (x + x / 256)
def s5 (x : Int) : Int := IntKind.u64.wrap (x + x / 65536)
def s6 (x : Int) : Int := IntKind.u64.wrap (x + x / 4294967296)
/-- What the library's count of ones answers. -/
def onI (x : Int) : Int := (wrap64 (s6 (s5 (s4 (s3 (s2 (s1 x))))))) % 128
theorem onI_lt (x : Int) : 0 ≤ onI x ∧ onI x < 128 := ⟨Int.emod_nonneg _ (by omega), Int.emod_lt_of_pos _ (by omega)⟩
theorem ret_i {a b : Int} (h : a = b) : Ending.returned (.int .i64 a) = .returned (.int .i64 b) := by rw [h]
set_option maxHeartbeats 1000000 in
theorem ones_any (x : Int) (w : World) : Calls Tryd.prog 50 #[.int .u64 x] w fun e w' => e = .returned (.int .i64 (onI x)) ∧ w' = w := by
  have h127 := i64_and127
  go_enter Tryd.func50, Tryd.ntmps50
  go_wp2
  go_ret
  exact ⟨ret_i rfl, rfl⟩

def ints (L : List Nat) : List Value := L.map fun (j : Nat) => .int .i64 (j : Int)
theorem info_int : (Tryd.prog.info? 3).map (fun i => (i.zero, i.size, i.bytes)) = some (some (.int .i64 0), 1, 8) := by kernel_rfl
theorem info_parts {t : TypeId} {z : Option Value} {n b : Nat} (h : (Tryd.prog.info? t).map (fun i => (i.zero, i.size, i.bytes)) = some (z, n, b)) : ∃ i, Tryd.prog.info? t = some i ∧ i.zero = z ∧ i.size = n ∧ i.bytes = b := by
  cases hi : Tryd.prog.info? t with
  | none => rw [hi] at h; cases h
  | some i => rw [hi] at h; simp at h; exact ⟨i, rfl, h.1, h.2.1, h.2.2⟩
theorem cells_new (w : World) (cs : List Value) (t : TypeId) : ∀ j u, cs[j]? = some u → (w.alloc (.cells cs.toArray t)).cell? ((⟨w.heap.size, 0, none⟩ : Addr).add j) = some u := by
  intro j u hu
  rw [Addr.add_lit, Nat.zero_add, cell_of_row _ _ _ _ _ _ (heap_alloc_new w (.cells cs.toArray t))]
  simpa using hu
theorem form_succ {w : World} {B : Nat} {e : TypeId} {k : Nat} {v : Value} {n : Nat} {xs : List Value} (h : w.ownsRow B e k v (n + 1) xs) : ∃ g cap, v = .slice (some ⟨g, 0, none⟩) (n + 1) cap := by
  rcases h.2 with ⟨_, h0⟩ | ⟨g, cap, cur, hv, _⟩
  · omega
  · exact ⟨g, cap, hv⟩
def lenOf' : Value → Nat
  | .slice _ n _ => n
  | _ => 0
theorem cell_alloc {w : World} {a : Addr} {v : Value} (h : w.cell? a = some v) (o : Obj) : (w.alloc o).cell? a = some v := (World.grownBy_alloc w o none).cell h (by simp)

set_option maxHeartbeats 1000000 in
set_option maxRecDepth 100000 in
/-- The list of a set. -/
theorem list_any (p : Nat → Bool) (w : World) (hZ : TabZ w) :
    Calls Tryd.prog 45 #[.int .u64 ((bs p 60 : Nat) : Int)] w fun e w' => ∃ (q : Option Addr) (c : Nat), e = .returned (.slice q (bl p 60).length c) ∧ w'.ownsRow w.heap.size 3 1 (.slice q (bl p 60).length c) (bl p 60).length (ints (bl p 60)) ∧ Below w.heap.size w w' := by
  have hs0 : bs p 60 = bs (lft p 0) 60 := bs_congr fun j _ => by simp [lft]
  have hon := ones_any ((bs p 60 : Nat) : Int) w
  obtain ⟨c0, hc0, hc1⟩ : ∃ c : Nat, onI ((bs p 60 : Nat) : Int) = c ∧ c < 128 := ⟨(onI ((bs p 60 : Nat) : Int)).toNat, by have := onI_lt ((bs p 60 : Nat) : Int); omega, by have := onI_lt ((bs p 60 : Nat) : Int); omega⟩
  rw [hc0] at hon
  clear hc0
  have hsH : Hid (bs p 60 = bs (lft p 0) 60) := hs0
  clear hs0
  generalize hx : ((bs p 60 : Nat) : Int) = x0 at *
  have hxH : Hid (((bs p 60 : Nat) : Int) = x0) := hx
  clear hx
  go_enter Tryd.func45, Tryd.ntmps45
  go_wp2_with (first
    | (go_at_call 50; refine hon.mono ?_; rintro e w' ⟨rfl, hw'⟩; have hw'' := hw'.symm; subst hw''; clear hon)
    | (at_make; obtain ⟨i0, hi, hz0, hz1, hz2⟩ := info_parts info_int; refine wpList_make_own _ rfl _ _ 47 rfl w.heap.size 3 i0 (.int .i64 0) 1 Tryd.underlying47 hi hz0 hz1 _ _ _ c0 rfl rfl rfl (by rw [hz2]; omega) (by unfold maxLen; omega) (Nat.le_refl _) ?_; intro w3 hown3 hgrow3; clear hi hz0 hz1 hz2)
    | go_in)
  have hb0 : Hid (Below w.heap.size w w3) := ⟨hgrow3.os, hgrow3.tape, hgrow3.output, hgrow3.size, fun k hk => hgrow3.block k hk (by simp)⟩
  clear hgrow3
  go_loopw [0, 3] (fun sv lv wr => ∃ (m : Nat) (q : Option Addr) (c : Nat), sv = .int .u64 ((bs (lft p m) 60 : Nat) : Int) ∧ lv = .slice q (bl p m).length c ∧ m ≤ 60 ∧ wr.ownsRow w.heap.size 3 1 (.slice q (bl p m).length c) (bl p m).length (ints (bl p m)) ∧ Below w.heap.size w wr)
    (fun _ lv _ => 64 - lenOf' lv)
  case atStart => exact ⟨0, _, _, by rw [← hxH.out, hsH.out], rfl, by omega, hown3, hb0.out⟩
  case round =>
    clear hown3 hb0 hsH hxH
    obtain ⟨m, q, c, rfl, rfl, hm, hown, hbl⟩ := hrel
    by_cases h0 : bs (lft p m) 60 = 0
    · have hz : ((bs (lft p m) 60 : Nat) : Int) = 0 := by rw [h0]; rfl
      have hfin : Hid (bl p 60 = bl p m) := bl_skip hm fun j h1 h2 => by
        have := bs_zero.1 h0 j h2
        simpa [lft, h1] using this
      clear h0
      generalize hgx : ((bs (lft p m) 60 : Nat) : Int) = x at *
      clear hgx
      go_wp2
      go_ret
      rw [hfin.out]
      exact ⟨q, c, rfl, hown, hbl⟩
    · have hx := bs_lt64 (lft p m)
      obtain ⟨c1, e1, hmc, hc60, hpc, hsn, hand⟩ := lft_step h0
      have hle := least_any _ wr (hZ.below hbl (Nat.le_refl _)) h0 hx
      rw [e1] at hle
      have hnz : ((((bs (lft p m) 60 : Nat) : Int)) == 0) = false := by simp; omega
      have hwr1 : IntKind.u64.wrap (((bs (lft p m) 60 : Nat) : Int) - 1) = ((bs (lft p m) 60 - 1 : Nat) : Int) := by rw [IntKind.wrap_u64]; omega
      have hbits : bits BinOp.and IntKind.u64 ((bs (lft p m) 60 : Nat) : Int) ((bs (lft p m) 60 - 1 : Nat) : Int) = ((bs (lft p (c1 + 1)) 60 : Nat) : Int) := by
        rw [bits_and_u64_nat _ _ hx (by omega), hand]
      have hbw : bits BinOp.and IntKind.u64 ((bs (lft p m) 60 : Nat) : Int) (IntKind.u64.wrap (((bs (lft p m) 60 : Nat) : Int) - 1)) = ((bs (lft p (c1 + 1)) 60 : Nat) : Int) := by rw [hwr1, hbits]
      have hlen := bl_len p m
      have hszw := hbl.size
      have hsnH : Hid (bl p (c1 + 1) = bl p m ++ [c1]) := hsn
      have hc60H : Hid (c1 < 60) := hc60
      clear hwr1 hbits hand h0 e1 hx hsn hpc hc60 hmc
      generalize ((bs (lft p m) 60 : Nat) : Int) = x at *
      generalize hy : ((bs (lft p (c1 + 1)) 60 : Nat) : Int) = y at *
      have hyH : Hid (((bs (lft p (c1 + 1)) 60 : Nat) : Int) = y) := hy
      clear hy
      go_wp2_with (first
        | (go_at_call 37; refine hle.mono ?_; rintro e w' ⟨rfl, hw'⟩; have hw'' := hw'.symm; subst hw''; clear hle)
        | (at_builtin; obtain ⟨i0, hi, hz0, hz1, hz2⟩ := info_parts info_int; refine wpList_append_own _ rfl _ _ 47 rfl w.heap.size 3 i0 (.int .i64 0) 1 8 Tryd.underlying47 hi hz0 hz1 hz2 rfl (by decide) _ _ _ rfl (hown.alloc _) ⟨wr.heap.size, 0, none⟩ 1 1 [.int .i64 (c1 : Int)] rfl rfl (cells_new _ _ _) (fun v hv => by simp at hv; subst hv; rfl) (by unfold maxLen; omega) (by omega) (by simp; omega) ?_; intro v' w5 hown5 hgrow5 hnil5; clear hi hz0 hz1 hz2 hnil5; obtain ⟨g5, cap5, rfl⟩ := form_succ hown5)
        | go_in)
      have hgA : (wr.alloc (.cells #[.int .i64 (c1 : Int)] 3)).grownBy w5 (Value.ownBlock (.slice q (bl p m).length c)) := hgrow5
      have hl1 : (bl p (c1 + 1)).length = (bl p m).length + 1 := by rw [hsnH.out]; simp
      refine ⟨⟨c1 + 1, some ⟨g5, 0, none⟩, cap5, by rw [hyH.out], by rw [hl1], hc60H.out, ?_, ?_⟩, ?_⟩
      · rw [hl1, hsnH.out]
        simp only [ints, List.map_append, List.map_cons, List.map_nil]
        exact hown5
      · refine ⟨hgA.os.trans hbl.os, hgA.tape.trans hbl.tape, hgA.output.trans hbl.output, ?_, fun k hk => ?_⟩
        · have := hgA.size
          simp at this
          omega
        · rw [hgA.block k (by simp; omega) (fun e => by have := (hown.lt k e.symm).1; omega), Below.heap_alloc _ _ _ (by omega), hbl.block k hk]
      · simp [lenOf']; omega
end Go.Proofs.YthfpdbogbmccjaaDoor
