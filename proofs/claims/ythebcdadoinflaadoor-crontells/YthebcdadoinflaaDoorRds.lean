/- What the functions of package cron that read numbers, spans and items of a text answer: contracts, each proved by a walk over its own text. -/
import Derived.Test.YthebcdadoinflaaDoorChk
import Derived.Test.YthebcdadoinflaaDoorNum
import Derived.Test.YthebcdadoinflaaDoorPrs
import Derived.Test.YthebcdadoinflaaDoorShelf
import Derived.Lib.SmallJoins
namespace Go.Proofs.YthebcdadoinflaaDoor
open Go.RowKit Cal Crn Txt

/-- What reading leans on: the tables, and that the library's own length holds some number. -/
structure Tx (w : World) : Prop where
  z : TabZ w
  c : TabC w
  x : ∃ m : Int, w.cell? ⟨2, 0, none⟩ = some (.int .i64 m)
  p : Lib.TabIs Tryd.prog w "internal/strconv.uint64pow10" .u64 Lib.pow10Tab
theorem gPow' : Tryd.prog.globalNamed "internal/strconv.uint64pow10" = some 6 := by kernel_rfl
theorem Tx.below {w w' : World} {B : Nat} (h : Tx w) (hb : Below B w w') (hB : w.heap.size ≤ B) : Tx w' := by
  have s2 := cell_size (h.z 0 (by omega))
  have s3 := cell_size h.c.1
  obtain ⟨m, hm⟩ := h.x
  have s4 := cell_size hm
  have c := fun o => hb.cell (p := ⟨0, o, none⟩) (Nat.lt_of_lt_of_le s3 hB)
  exact ⟨fun k hk => (hb.cell (p := ⟨1, k, none⟩) (Nat.lt_of_lt_of_le s2 hB)).trans (h.z k hk),
    ⟨(c 0).trans h.c.1, (c 1).trans h.c.2.1, (c 2).trans h.c.2.2.1, (c 3).trans h.c.2.2.2.1, (c 4).trans h.c.2.2.2.2⟩,
    ⟨m, (hb.cell (p := ⟨2, 0, none⟩) (Nat.lt_of_lt_of_le s4 hB)).trans hm⟩, Joins.tab_stays gPow' h.p hb hB⟩
theorem Tx.alloc {w : World} (h : Tx w) (o : Obj) : Tx (w.alloc o) := h.below (below_box w o) (Nat.le_refl _)
theorem Tx.drew {w : World} (h : Tx w) (n : Nat) : Tx (w.drewN n) := h.below (below_draws (Below.refl _ _) n) (Nat.le_refl _)

theorem ret_ib {k : IntKind} {a b : Int} {x y : Bool} (h : a = b) (h' : x = y) : Ending.returned (.tuple #[.int k a, .bool x]) = .returned (.tuple #[.int k b, .bool y]) := by rw [h, h']
theorem mk_size (l : List UInt8) : (ByteArray.mk l.toArray).size = l.length := by simp [ByteArray.size]
theorem mk_data (l : List UInt8) : (ByteArray.mk l.toArray).data.toList = l := by simp
theorem mk_at (l : List UInt8) (h : 0 < (ByteArray.mk l.toArray).size) : (ByteArray.mk l.toArray)[0] = l.getD 0 0 := by
  cases l with
  | nil => simp [ByteArray.size] at h
  | cons a l => rfl

/-- A text between a byte. -/
theorem cut_any (l : List UInt8) (c : UInt8) (a b : List UInt8) (st : Bool) (HK : Hid (Lib.cut l [c] = (a, b, st))) (w : World) (hT : Tx w) (hl : l.length ≤ 200) :
    Calls Tryd.prog 45 #[.string ⟨l.toArray⟩, .string ⟨#[c]⟩] w fun e w' => e = .returned (.tuple #[.string ⟨a.toArray⟩, .string ⟨b.toArray⟩, .bool st]) ∧ ∃ n, w' = w.drewN n := by
  obtain ⟨m, hm⟩ := hT.x
  have h := Tryd.strings_Cut ⟨l.toArray⟩ ⟨#[c]⟩ m w (by rw [mk_size]; omega) hm
  rw [mk_data, show (ByteArray.mk #[c]).data.toList = [c] from rfl, HK.out] at h
  exact h

set_option maxHeartbeats 400000 in
theorem plain_zero (s : ByteArray) (w : World) (h1 : s.size = 2) (h0 : (((s[0]'(by omega)).toNat : Int) == 48) = true) :
    Calls Tryd.prog 63 #[.string s] w fun e w' => e = .returned (.tuple #[.int .i64 0, .bool false]) ∧ w' = w := by
  go_enter Tryd.func63, Tryd.ntmps63
  go_wp2
  go_ret2
  exact ⟨rfl, rfl⟩
set_option maxHeartbeats 400000 in
theorem plain_one (s : ByteArray) (w : World) (h1 : s.size = 1) (r : Option Int) (HR : Hid (nrd s.data.toList 0 = r)) :
    Calls Tryd.prog 63 #[.string s] w fun e w' => e = .returned (.tuple #[.int .i64 (r.getD 0), .bool r.isSome]) ∧ w' = w := by
  go_enter Tryd.func63, Tryd.ntmps63
  go_wp2_with (go_at_call 77; refine (number_any _ _ (by omega) (by omega) _ HR).mono ?_; rintro e w' ⟨rfl, rfl⟩)
  go_ret2
  exact ⟨rfl, rfl⟩
set_option maxHeartbeats 400000 in
theorem plain_two (s : ByteArray) (w : World) (h1 : s.size = 2) (h0 : (((s[0]'(by omega)).toNat : Int) == 48) = false) (r : Option Int) (HR : Hid (nrd s.data.toList 0 = r)) :
    Calls Tryd.prog 63 #[.string s] w fun e w' => e = .returned (.tuple #[.int .i64 (r.getD 0), .bool r.isSome]) ∧ w' = w := by
  go_enter Tryd.func63, Tryd.ntmps63
  go_wp2_with (go_at_call 77; refine (number_any _ _ (by omega) (by omega) _ HR).mono ?_; rintro e w' ⟨rfl, rfl⟩)
  go_ret2
  exact ⟨rfl, rfl⟩
set_option maxHeartbeats 400000 in
theorem plain_nil (w : World) :
    Calls Tryd.prog 63 #[.string ⟨#[]⟩] w fun e w' => e = .returned (.tuple #[.int .i64 0, .bool false]) ∧ w' = w := by
  go_enter Tryd.func63, Tryd.ntmps63
  go_wp2_with (go_at_call 77; refine (number_nil _).mono ?_; rintro e w' ⟨rfl, rfl⟩)
  go_ret2
  exact ⟨rfl, rfl⟩

/-- A number of at most two bytes. -/
theorem plain_any (l : List UInt8) (w : World) (hl : l.length ≤ 2) (r : Option Int) (HR : Hid (numO l = r)) :
    Calls Tryd.prog 63 #[.string ⟨l.toArray⟩] w fun e w' => e = .returned (.tuple #[.int .i64 (r.getD 0), .bool r.isSome]) ∧ w' = w := by
  have hr := HR.out
  unfold numO at hr
  rcases (show l.length = 0 ∨ l.length = 1 ∨ l.length = 2 by omega) with e | e | e
  · have : l = [] := List.eq_nil_of_length_eq_zero e
    subst this
    rw [if_pos (Or.inl rfl)] at hr
    subst hr
    exact plain_nil w
  · rw [if_neg (by rintro (h | h | h); (rw [h] at e; cases e); omega; omega)] at hr
    exact plain_one _ w (by rw [mk_size]; exact e) r (by show _ = _; rw [mk_data]; exact hr)
  · by_cases h0 : l.getD 0 0 = 48
    · rw [if_pos (Or.inr (Or.inr ⟨by omega, h0⟩))] at hr
      subst hr
      exact plain_zero _ w (by rw [mk_size]; exact e) (by rw [mk_at, h0]; rfl)
    · rw [if_neg (by rintro (h | h | h); (rw [h] at e; cases e); omega; exact h0 h.2)] at hr
      refine plain_two _ w (by rw [mk_size]; exact e) ?_ r (by show _ = _; rw [mk_data]; exact hr)
      rw [mk_at]
      have : (l.getD 0 0).toNat ≠ 48 := fun h => h0 (UInt8.toNat_inj.1 h)
      simp only [beq_eq_false_iff_ne]
      omega

set_option maxHeartbeats 400000 in
theorem readNumber_long (s : ByteArray) (w : World) (hs : 2 < s.size) :
    Calls Tryd.prog 48 #[.string s] w fun e w' => e = .returned (.tuple #[.int .i64 0, .bool false]) ∧ w' = w := by
  go_enter Tryd.func48, Tryd.ntmps48
  go_wp2
  go_ret2
  exact ⟨rfl, rfl⟩
set_option maxHeartbeats 400000 in
theorem readNumber_short (l : List UInt8) (w : World) (hl : l.length ≤ 2) (r : Option Int) (HR : Hid (numO l = r)) :
    Calls Tryd.prog 48 #[.string ⟨l.toArray⟩] w fun e w' => e = .returned (.tuple #[.int .i64 (r.getD 0), .bool r.isSome]) ∧ w' = w := by
  have c := plain_any l w hl r HR
  have hs : (ByteArray.mk l.toArray).size ≤ 2 := by rw [mk_size]; exact hl
  generalize ByteArray.mk l.toArray = s at *
  go_enter Tryd.func48, Tryd.ntmps48
  go_wp2_with (go_at_call 63; refine c.mono ?_; rintro e w' ⟨rfl, rfl⟩)
  go_ret2
  exact ⟨rfl, rfl⟩
theorem readNumber_any (l : List UInt8) (w : World) (r : Option Int) (HR : Hid (numO l = r)) :
    Calls Tryd.prog 48 #[.string ⟨l.toArray⟩] w fun e w' => e = .returned (.tuple #[.int .i64 (r.getD 0), .bool r.isSome]) ∧ w' = w := by
  by_cases hl : l.length ≤ 2
  · exact readNumber_short l w hl r HR
  · have hr := HR.out
    unfold numO at hr
    rw [if_pos (Or.inr (Or.inl (by omega)))] at hr
    subst hr
    exact readNumber_long _ w (by rw [mk_size]; omega)

set_option maxHeartbeats 400000 in
theorem has_far (s n : Nat) (w : World) (hs : s < 18446744073709551616) (hn : 64 ≤ n) (_hn2 : n ≤ 99) :
    Calls Tryd.prog 51 #[.int .u64 s, .int .i64 n] w fun e w' => e = .returned (.bool (s.testBit n)) ∧ w' = w := by
  have hz : (s : Int) / 18446744073709551616 = 0 := by omega
  have HB : Hid (s.testBit n = false) := Nat.testBit_lt_two_pow (Nat.lt_of_lt_of_le hs (Nat.pow_le_pow_right (n := 2) (by omega) hn))
  go_enter Tryd.func51, Tryd.ntmps51
  go_wp2
  go_ret
  exact ⟨ret_bool (by rw [HB.out]; rfl), rfl⟩
theorem has_num (s : Nat) (n : Int) (w : World) (hs : s < 18446744073709551616) (h0 : 0 ≤ n) (hn : n ≤ 99) :
    Calls Tryd.prog 51 #[.int .u64 s, .int .i64 n] w fun e w' => e = .returned (.bool (s.testBit n.toNat)) ∧ w' = w := by
  by_cases h : n < 64
  · exact has_at s n w hs h0 h
  · have c := has_far s n.toNat w hs (by omega) (by omega)
    rw [show ((n.toNat : Nat) : Int) = n by omega] at c
    exact c

set_option maxHeartbeats 400000 in
theorem readMember_yes (all lo hi : Nat) (ha : Al all lo hi) (l : List UInt8) (n : Int) (w : World) (HM : Hid (memO lo hi l = some n)) :
    Calls Tryd.prog 46 #[.string ⟨l.toArray⟩, .int .u64 all] w fun e w' => e = .returned (.tuple #[.int .i64 n, .bool true]) ∧ w' = w := by
  obtain ⟨hn, hb0⟩ := mem_open HM.out
  have c := readNumber_any l w (some n) hn
  obtain ⟨g1, g2⟩ := num_ge hn
  have hb : all.testBit n.toNat = true := by rw [ha.at g1, decide_eq_true hb0]
  have hlt := ha.lt
  have HNn : Hid (numO l = some n) := hn
  clear hn hb0
  generalize ByteArray.mk l.toArray = s at *
  go_enter Tryd.func46, Tryd.ntmps46
  go_wp2_with (first | (go_at_call 48; refine c.mono ?_; rintro e w' ⟨rfl, rfl⟩) | (go_at_call 51; refine (has_num _ _ _ hlt g1 g2).mono ?_; rintro e w' ⟨rfl, rfl⟩))
  go_ret2
  exact ⟨rfl, rfl⟩
set_option maxHeartbeats 400000 in
theorem readMember_out (all lo hi : Nat) (ha : Al all lo hi) (l : List UInt8) (n : Int) (w : World) (hn : Hid (numO l = some n)) (hb0 : ¬ ((lo : Int) ≤ n ∧ n ≤ hi)) :
    Calls Tryd.prog 46 #[.string ⟨l.toArray⟩, .int .u64 all] w fun e w' => e = .returned (.tuple #[.int .i64 n, .bool false]) ∧ w' = w := by
  have c := readNumber_any l w (some n) hn
  obtain ⟨g1, g2⟩ := num_ge hn.out
  have hb : all.testBit n.toNat = false := by rw [ha.at g1, decide_eq_false hb0]
  have hlt := ha.lt
  clear hb0
  generalize ByteArray.mk l.toArray = s at *
  go_enter Tryd.func46, Tryd.ntmps46
  go_wp2_with (first | (go_at_call 48; refine c.mono ?_; rintro e w' ⟨rfl, rfl⟩) | (go_at_call 51; refine (has_num _ _ _ hlt g1 g2).mono ?_; rintro e w' ⟨rfl, rfl⟩))
  go_ret2
  exact ⟨rfl, rfl⟩
set_option maxHeartbeats 400000 in
theorem readMember_none (all : Nat) (l : List UInt8) (w : World) (hn : Hid (numO l = none)) :
    Calls Tryd.prog 46 #[.string ⟨l.toArray⟩, .int .u64 all] w fun e w' => e = .returned (.tuple #[.int .i64 0, .bool false]) ∧ w' = w := by
  have c := readNumber_any l w none hn
  generalize ByteArray.mk l.toArray = s at *
  go_enter Tryd.func46, Tryd.ntmps46
  go_wp2_with (first | (go_at_call 48; refine c.mono ?_; rintro e w' ⟨rfl, rfl⟩))
  go_ret2
  exact ⟨rfl, rfl⟩
theorem readMember_no (all lo hi : Nat) (ha : Al all lo hi) (l : List UInt8) (w : World) (HM : Hid (memO lo hi l = none)) :
    Calls Tryd.prog 46 #[.string ⟨l.toArray⟩, .int .u64 all] w fun e w' => ∃ v : Int, e = .returned (.tuple #[.int .i64 v, .bool false]) ∧ w' = w := by
  cases hn : numO l with
  | none =>
    refine (readMember_none all l w hn).mono ?_
    rintro e w' ⟨rfl, rfl⟩
    exact ⟨_, rfl, rfl⟩
  | some n =>
    refine (readMember_out all lo hi ha l n w hn (mem_not HM.out hn)).mono ?_
    rintro e w' ⟨rfl, rfl⟩
    exact ⟨_, rfl, rfl⟩

set_option maxHeartbeats 400000 in
theorem last_any (all lo hi : Nat) (ha : Al all lo hi) (w : World) :
    Calls Tryd.prog 62 #[.int .u64 all] w fun e w' => e = .returned (.int .i64 hi) ∧ w' = w := by
  have hlt := ha.lt
  have htop := ha.top
  have c := Tryd.bits_Len64 (all : Int) w (by omega) (by omega)
  rw [show ((all : Int)).toNat = all by omega, ha.len] at c
  go_enter Tryd.func62, Tryd.ntmps62
  go_wp2_with (go_at_call 76; refine c.mono ?_; rintro e w' ⟨rfl, rfl⟩)
  go_ret
  exact ⟨ret_int (by omega), rfl⟩
theorem first_al (all lo hi : Nat) (ha : Al all lo hi) (w : World) (hZ : TabZ w) :
    Calls Tryd.prog 25 #[.int .u64 all] w fun e w' => e = .returned (.int .i64 lo) ∧ w' = w := by
  have c := first_any all w hZ ha.nz ha.lt
  rw [ha.ctz] at c
  exact c

set_option maxHeartbeats 400000 in
theorem readSpan_star (all lo hi : Nat) (ha : Al all lo hi) (w : World) (hZ : TabZ w) :
    Calls Tryd.prog 47 #[.string ⟨#[42]⟩, .int .u64 all] w fun e w' => e = .returned (.tuple #[.int .i64 lo, .int .i64 hi, .bool true]) ∧ w' = w := by
  go_enter Tryd.func47, Tryd.ntmps47
  go_wp2_with (first | (go_at_call 25; refine (first_al all lo hi ha _ hZ).mono ?_; rintro e w' ⟨rfl, rfl⟩) | (go_at_call 62; refine (last_any all lo hi ha _).mono ?_; rintro e w' ⟨rfl, rfl⟩))
  exact bodyPost_ret (v := .tuple #[.int .i64 lo, .int .i64 hi, .bool true]) (by simp [results, Tryd.results47, go_sem]) rfl ⟨rfl, rfl⟩

theorem not_star {l : List UInt8} (h : l ≠ [42]) : ((ByteArray.mk l.toArray).toList == [42]) = false := by
  rw [ByteArray.toList_eq, mk_data]
  simpa using h

set_option maxHeartbeats 800000 in
theorem readSpan_two (all lo hi : Nat) (ha : Al all lo hi) (l a b : List UInt8) (st : Bool) (hl : l.length ≤ 200) (hne : l ≠ [42]) (HK : Hid (Lib.cut l [45] = (a, b, st))) (f t : Int) (Hf : Hid (memO lo hi a = some f)) (Ht : Hid (memO lo hi b = some t)) (w : World) (hT : Tx w) :
    Calls Tryd.prog 47 #[.string ⟨l.toArray⟩, .int .u64 all] w fun e w' => e = .returned (.tuple #[.int .i64 f, .int .i64 t, .bool (decide (f ≤ t))]) ∧ ∃ n, w' = w.drewN n := by
  have c := cut_any l 45 a b st HK w hT hl
  have hq := not_star hne
  generalize ByteArray.mk l.toArray = s at *
  go_enter Tryd.func47, Tryd.ntmps47
  go_wp2_with (first | (go_at_call 45; refine c.mono ?_; rintro e w' ⟨rfl, n, rfl⟩))
  refine (readMember_yes all lo hi ha a f _ Hf).mono ?_
  rintro e w' ⟨rfl, rfl⟩
  go_wp2_with fail
  refine (readMember_yes all lo hi ha b t _ Ht).mono ?_
  rintro e w' ⟨rfl, rfl⟩
  go_wp2_with fail
  exact bodyPost_ret (v := .tuple #[.int .i64 f, .int .i64 t, .bool (decide (f ≤ t))]) (by simp [results, Tryd.results47, go_sem]) rfl ⟨rfl, n, rfl⟩

set_option maxHeartbeats 800000 in
theorem readSpan_a (all lo hi : Nat) (ha : Al all lo hi) (l a b : List UInt8) (st : Bool) (hl : l.length ≤ 200) (hne : l ≠ [42]) (HK : Hid (Lib.cut l [45] = (a, b, st))) (Hf : Hid (memO lo hi a = none)) (w : World) (hT : Tx w) :
    Calls Tryd.prog 47 #[.string ⟨l.toArray⟩, .int .u64 all] w fun e w' => ∃ v v' : Int, e = .returned (.tuple #[.int .i64 v, .int .i64 v', .bool false]) ∧ ∃ n, w' = w.drewN n := by
  have c := cut_any l 45 a b st HK w hT hl
  have hq := not_star hne
  generalize ByteArray.mk l.toArray = s at *
  have hb : ∃ t, memO lo hi b = t := ⟨_, rfl⟩
  obtain ⟨t, ht⟩ := hb
  have HT : Hid (memO lo hi b = t) := ht
  clear ht
  go_enter Tryd.func47, Tryd.ntmps47
  go_wp2_with (first | (go_at_call 45; refine c.mono ?_; rintro e w' ⟨rfl, n, rfl⟩))
  refine (readMember_no all lo hi ha a _ Hf).mono ?_
  rintro e w' ⟨v, rfl, rfl⟩
  go_wp2_with fail
  cases t with
  | none =>
    refine (readMember_no all lo hi ha b _ HT).mono ?_
    rintro e w' ⟨v', rfl, rfl⟩
    go_wp2_with fail
    exact bodyPost_ret (v := .tuple #[.int .i64 v, .int .i64 v', .bool false]) (by simp [results, Tryd.results47, go_sem]) rfl ⟨v, v', rfl, n, rfl⟩
  | some t =>
    refine (readMember_yes all lo hi ha b t _ HT).mono ?_
    rintro e w' ⟨rfl, rfl⟩
    go_wp2_with fail
    exact bodyPost_ret (v := .tuple #[.int .i64 v, .int .i64 t, .bool false]) (by simp [results, Tryd.results47, go_sem]) rfl ⟨v, t, rfl, n, rfl⟩

set_option maxHeartbeats 800000 in
theorem readSpan_b (all lo hi : Nat) (ha : Al all lo hi) (l a b : List UInt8) (st : Bool) (hl : l.length ≤ 200) (hne : l ≠ [42]) (HK : Hid (Lib.cut l [45] = (a, b, st))) (f : Int) (Hf : Hid (memO lo hi a = some f)) (Ht : Hid (memO lo hi b = none)) (w : World) (hT : Tx w) :
    Calls Tryd.prog 47 #[.string ⟨l.toArray⟩, .int .u64 all] w fun e w' => ∃ v v' : Int, e = .returned (.tuple #[.int .i64 v, .int .i64 v', .bool false]) ∧ ∃ n, w' = w.drewN n := by
  have c := cut_any l 45 a b st HK w hT hl
  have hq := not_star hne
  generalize ByteArray.mk l.toArray = s at *
  go_enter Tryd.func47, Tryd.ntmps47
  go_wp2_with (first | (go_at_call 45; refine c.mono ?_; rintro e w' ⟨rfl, n, rfl⟩))
  refine (readMember_yes all lo hi ha a f _ Hf).mono ?_
  rintro e w' ⟨rfl, rfl⟩
  go_wp2_with fail
  refine (readMember_no all lo hi ha b _ Ht).mono ?_
  rintro e w' ⟨v', rfl, rfl⟩
  go_wp2_with fail
  exact bodyPost_ret (v := .tuple #[.int .i64 f, .int .i64 v', .bool false]) (by simp [results, Tryd.results47, go_sem]) rfl ⟨f, v', rfl, n, rfl⟩

theorem readSpan_yes (all lo hi : Nat) (ha : Al all lo hi) (l : List UInt8) (hl : l.length ≤ 200) (f t : Int) (HS : Hid (spanO lo hi l = some (f, t))) (w : World) (hT : Tx w) :
    Calls Tryd.prog 47 #[.string ⟨l.toArray⟩, .int .u64 all] w fun e w' => e = .returned (.tuple #[.int .i64 f, .int .i64 t, .bool true]) ∧ ∃ n, w' = w.drewN n := by
  have hs := HS.out
  by_cases e : l = [42]
  · subst e
    rw [span_star] at hs
    simp only [Option.some.injEq, Prod.mk.injEq] at hs
    obtain ⟨rfl, rfl⟩ := hs
    refine (readSpan_star all lo hi ha w hT.z).mono ?_
    rintro e w' ⟨rfl, rfl⟩
    exact ⟨rfl, 0, rfl⟩
  · obtain ⟨a, b, st, hk⟩ : ∃ a b st, Lib.cut l [45] = (a, b, st) := ⟨_, _, _, rfl⟩
    rw [span_two e hk] at hs
    cases h1 : memO lo hi a with
    | none => rw [h1] at hs; cases hs
    | some x =>
      cases h2 : memO lo hi b with
      | none => rw [h1, h2] at hs; cases hs
      | some y =>
        rw [h1, h2] at hs
        simp only [Option.bind_some] at hs
        split at hs
        · next hle =>
          simp only [Option.some.injEq, Prod.mk.injEq] at hs
          obtain ⟨rfl, rfl⟩ := hs
          refine (readSpan_two all lo hi ha l a b st hl e hk x y h1 h2 w hT).mono ?_
          rintro e w' ⟨rfl, hw⟩
          exact ⟨by rw [decide_eq_true hle], hw⟩
        · cases hs
theorem readSpan_no (all lo hi : Nat) (ha : Al all lo hi) (l : List UInt8) (hl : l.length ≤ 200) (HS : Hid (spanO lo hi l = none)) (w : World) (hT : Tx w) :
    Calls Tryd.prog 47 #[.string ⟨l.toArray⟩, .int .u64 all] w fun e w' => ∃ v v' : Int, e = .returned (.tuple #[.int .i64 v, .int .i64 v', .bool false]) ∧ ∃ n, w' = w.drewN n := by
  have hs := HS.out
  by_cases e : l = [42]
  · subst e
    rw [span_star] at hs
    cases hs
  · obtain ⟨a, b, st, hk⟩ : ∃ a b st, Lib.cut l [45] = (a, b, st) := ⟨_, _, _, rfl⟩
    rw [span_two e hk] at hs
    cases h1 : memO lo hi a with
    | none => exact readSpan_a all lo hi ha l a b st hl e hk h1 w hT
    | some x =>
      cases h2 : memO lo hi b with
      | none => exact readSpan_b all lo hi ha l a b st hl e hk x h1 h2 w hT
      | some y =>
        rw [h1, h2] at hs
        simp only [Option.bind_some] at hs
        split at hs
        · cases hs
        · next hle =>
          refine (readSpan_two all lo hi ha l a b st hl e hk x y h1 h2 w hT).mono ?_
          rintro e w' ⟨rfl, hw⟩
          exact ⟨x, y, by rw [decide_eq_false hle], hw⟩

theorem pow_lt {n : Int} (h0 : 0 ≤ n) (h : n < 64) : 2 ^ n.toNat < 18446744073709551616 := Nat.pow_lt_pow_right (a := 2) (by omega) (show n.toNat < 64 by omega)
theorem wrap_pow {n : Int} (h0 : 0 ≤ n) (h : n < 64) : IntKind.u64.wrap (2 ^ n.toNat : Int) = ((2 ^ n.toNat : Nat) : Int) := by
  have := pow_lt h0 h
  have e : ((2 ^ n.toNat : Nat) : Int) = (2 : Int) ^ n.toNat := by simp
  rw [IntKind.wrap_u64, ← e]
  clear e
  generalize 2 ^ n.toNat = p at *
  omega
set_option maxHeartbeats 800000 in
theorem span_any (f t s : Int) (w : World) (h0 : 0 ≤ f) (h1 : f ≤ t) (h2 : t < 64) (h3 : 1 ≤ s) (h4 : s ≤ 99) :
    Calls Tryd.prog 28 #[.int .i64 f, .int .i64 t, .int .i64 s] w fun e w' => e = .returned (.int .u64 (spn f t s)) ∧ w' = w := by
  go_enter Tryd.func28, Tryd.ntmps28
  go_wp2
  go_loop [7, 8] (fun a i => ∃ n : Int, i = .int .i64 n ∧ f ≤ n ∧ n ≤ t + s ∧ Hid ((n.toNat - f.toNat) % s.toNat = 0) ∧ a = .int .u64 (spn f (n - 1) s)) (fun _ i => (200 - intOf i).toNat)
  case atStart => exact ⟨f, rfl, by omega, by omega, by show (f.toNat - f.toNat) % s.toNat = 0; simp, by rw [spn_start h0]; rfl⟩
  case round =>
    obtain ⟨n, rfl, g1, g2, hm, rfl⟩ := hrel
    by_cases hn : n ≤ t
    · have hlt := spn_lt (f := f) (t := n - 1) (s := s) h0 (by omega)
      go_wp2
      go_round
      case rel => exact ⟨n + s, rfl, by omega, by omega, mod_next h0 g1 h3 hm.out, by rw [wrap_pow (by omega) (by omega), bits_or_u64_nat _ _ hlt (pow_lt (by omega) (by omega)), spn_step h0 g1 h3 hm.out]⟩
      case measure => simp [intOf]; omega
    · go_wp2
      go_ret
      exact ⟨ret_int (by rw [spn_end h0 g1 h3 hm.out (by omega) g2]), rfl⟩

theorem ret_ub {a b : Int} {x : Bool} (h : a = b) : Ending.returned (.tuple #[.int .u64 a, .bool x]) = .returned (.tuple #[.int .u64 b, .bool x]) := by rw [h]
set_option maxHeartbeats 800000 in
theorem readItem_one (all lo hi : Nat) (ha : Al all lo hi) (l a b : List UInt8) (hl : l.length ≤ 200) (HK : Hid (Lib.cut l [47] = (a, b, false))) (n : Int) (Hm : Hid (memO lo hi a = some n)) (h0 : 0 ≤ n) (h6 : n < 64) (w : World) (hT : Tx w) :
    Calls Tryd.prog 33 #[.string ⟨l.toArray⟩, .int .u64 all] w fun e w' => e = .returned (.tuple #[.int .u64 ((2 ^ n.toNat : Nat) : Int), .bool true]) ∧ ∃ n, w' = w.drewN n := by
  have c := cut_any l 47 a b false HK w hT hl
  generalize ByteArray.mk l.toArray = s at *
  go_enter Tryd.func33, Tryd.ntmps33
  go_wp2_with (first | (go_at_call 45; refine c.mono ?_; rintro e w' ⟨rfl, k, rfl⟩) | (go_at_call 46; refine (readMember_yes all lo hi ha a n _ Hm).mono ?_; rintro e w' ⟨rfl, rfl⟩))
  go_ret2
  exact ⟨ret_ub (wrap_pow h0 h6), k, rfl⟩

set_option maxHeartbeats 800000 in
theorem readItem_all (all lo hi : Nat) (ha : Al all lo hi) (l a b : List UInt8) (hl : l.length ≤ 200) (hla : a.length ≤ 200) (HK : Hid (Lib.cut l [47] = (a, b, false))) (Hm : Hid (memO lo hi a = none)) (f t : Int) (Hs : Hid (spanO lo hi a = some (f, t))) (h0 : 0 ≤ f) (h1 : f ≤ t) (h2 : t < 64) (w : World) (hT : Tx w) :
    Calls Tryd.prog 33 #[.string ⟨l.toArray⟩, .int .u64 all] w fun e w' => e = .returned (.tuple #[.int .u64 (spn f t 1), .bool true]) ∧ ∃ n, w' = w.drewN n := by
  have c := cut_any l 47 a b false HK w hT hl
  generalize ByteArray.mk l.toArray = s at *
  go_enter Tryd.func33, Tryd.ntmps33
  go_wp2_with (first | (go_at_call 45; refine c.mono ?_; rintro e w' ⟨rfl, k, rfl⟩))
  refine (readMember_no all lo hi ha a _ Hm).mono ?_
  rintro e w' ⟨v, rfl, rfl⟩
  go_wp2_with fail
  refine (readSpan_yes all lo hi ha a hla f t Hs _ (hT.drew k)).mono ?_
  rintro e w' ⟨rfl, k2, rfl⟩
  go_wp2_with (go_at_call 28; refine (span_any f t 1 _ h0 h1 h2 (by omega) (by omega)).mono ?_; rintro e w' ⟨rfl, rfl⟩)
  go_ret2
  exact ⟨rfl, _, rfl⟩

set_option maxHeartbeats 800000 in
theorem readItem_bad (all lo hi : Nat) (ha : Al all lo hi) (l a b : List UInt8) (st : Bool) (hl : l.length ≤ 200) (hla : a.length ≤ 200) (HK : Hid (Lib.cut l [47] = (a, b, st))) (Hm : Hid (memO lo hi a = none)) (Hs : Hid (spanO lo hi a = none)) (w : World) (hT : Tx w) :
    Calls Tryd.prog 33 #[.string ⟨l.toArray⟩, .int .u64 all] w fun e w' => e = .returned (.tuple #[.int .u64 0, .bool false]) ∧ ∃ n, w' = w.drewN n := by
  have c := cut_any l 47 a b st HK w hT hl
  generalize ByteArray.mk l.toArray = s at *
  go_enter Tryd.func33, Tryd.ntmps33
  go_wp2_with (first | (go_at_call 45; refine c.mono ?_; rintro e w' ⟨rfl, k, rfl⟩))
  refine (readMember_no all lo hi ha a _ Hm).mono ?_
  rintro e w' ⟨v, rfl, rfl⟩
  go_wp2_with fail
  refine (readSpan_no all lo hi ha a hla Hs _ (hT.drew k)).mono ?_
  rintro e w' ⟨v1, v2, rfl, k2, rfl⟩
  go_wp2_with fail
  go_ret2
  exact ⟨rfl, _, rfl⟩

/-- A step stands behind the span: whether its numbers are read as one member or not makes no difference. -/
theorem member_some (all lo hi : Nat) (ha : Al all lo hi) (l : List UInt8) (w : World) :
    Calls Tryd.prog 46 #[.string ⟨l.toArray⟩, .int .u64 all] w fun e w' => ∃ (v : Int) (b : Bool), e = .returned (.tuple #[.int .i64 v, .bool b]) ∧ w' = w := by
  cases h : memO lo hi l with
  | none =>
    refine (readMember_no all lo hi ha l w h).mono ?_
    rintro e w' ⟨v, rfl, rfl⟩
    exact ⟨_, _, rfl, rfl⟩
  | some n =>
    refine (readMember_yes all lo hi ha l n w h).mono ?_
    rintro e w' ⟨rfl, rfl⟩
    exact ⟨_, _, rfl, rfl⟩

set_option maxHeartbeats 800000 in
theorem readItem_st_bad (all lo hi : Nat) (ha : Al all lo hi) (l a b : List UInt8) (hl : l.length ≤ 200) (hla : a.length ≤ 200) (HK : Hid (Lib.cut l [47] = (a, b, true))) (Hs : Hid (spanO lo hi a = none)) (w : World) (hT : Tx w) :
    Calls Tryd.prog 33 #[.string ⟨l.toArray⟩, .int .u64 all] w fun e w' => e = .returned (.tuple #[.int .u64 0, .bool false]) ∧ ∃ n, w' = w.drewN n := by
  have c := cut_any l 47 a b true HK w hT hl
  generalize ByteArray.mk l.toArray = s at *
  go_enter Tryd.func33, Tryd.ntmps33
  go_wp2_with (first | (go_at_call 45; refine c.mono ?_; rintro e w' ⟨rfl, k, rfl⟩))
  refine (member_some all lo hi ha a _).mono ?_
  rintro e w' ⟨v, q, rfl, rfl⟩
  cases q
  all_goals
    go_wp2_with fail
    refine (readSpan_no all lo hi ha a hla Hs _ (hT.drew k)).mono ?_
    rintro e w' ⟨v1, v2, rfl, k2, rfl⟩
    go_wp2_with fail
    go_ret2
    exact ⟨rfl, _, rfl⟩

set_option maxHeartbeats 1600000 in
theorem readItem_st_step (all lo hi : Nat) (ha : Al all lo hi) (l a b : List UInt8) (hl : l.length ≤ 200) (hla : a.length ≤ 200) (HK : Hid (Lib.cut l [47] = (a, b, true))) (f t : Int) (Hs : Hid (spanO lo hi a = some (f, t))) (h0 : 0 ≤ f) (h1 : f ≤ t) (h2 : t < 64) (st : Int) (Hn : Hid (numO b = some st)) (h3 : 1 ≤ st) (h4 : st ≤ 99) (w : World) (hT : Tx w) :
    Calls Tryd.prog 33 #[.string ⟨l.toArray⟩, .int .u64 all] w fun e w' => e = .returned (.tuple #[.int .u64 (spn f t st), .bool true]) ∧ ∃ n, w' = w.drewN n := by
  have c := cut_any l 47 a b true HK w hT hl
  generalize ByteArray.mk l.toArray = s at *
  go_enter Tryd.func33, Tryd.ntmps33
  go_wp2_with (first | (go_at_call 45; refine c.mono ?_; rintro e w' ⟨rfl, k, rfl⟩))
  refine (member_some all lo hi ha a _).mono ?_
  rintro e w' ⟨v, q, rfl, rfl⟩
  cases q
  all_goals
    go_wp2_with fail
    refine (readSpan_yes all lo hi ha a hla f t Hs _ (hT.drew k)).mono ?_
    rintro e w' ⟨rfl, k2, rfl⟩
    go_wp2_with fail
    refine (readNumber_any b _ (some st) Hn).mono ?_
    rintro e w' ⟨rfl, rfl⟩
    go_wp2_with fail
    refine (span_any f t st _ h0 h1 h2 h3 h4).mono ?_
    rintro e w' ⟨rfl, rfl⟩
    go_wp2_with fail
    go_ret2
    exact ⟨rfl, _, rfl⟩

set_option maxHeartbeats 1600000 in
theorem readItem_st_none (all lo hi : Nat) (ha : Al all lo hi) (l a b : List UInt8) (hl : l.length ≤ 200) (hla : a.length ≤ 200) (HK : Hid (Lib.cut l [47] = (a, b, true))) (f t : Int) (Hs : Hid (spanO lo hi a = some (f, t))) (Hn : Hid (numO b = none)) (w : World) (hT : Tx w) :
    Calls Tryd.prog 33 #[.string ⟨l.toArray⟩, .int .u64 all] w fun e w' => e = .returned (.tuple #[.int .u64 0, .bool false]) ∧ ∃ n, w' = w.drewN n := by
  have c := cut_any l 47 a b true HK w hT hl
  generalize ByteArray.mk l.toArray = s at *
  go_enter Tryd.func33, Tryd.ntmps33
  go_wp2_with (first | (go_at_call 45; refine c.mono ?_; rintro e w' ⟨rfl, k, rfl⟩))
  refine (member_some all lo hi ha a _).mono ?_
  rintro e w' ⟨v, q, rfl, rfl⟩
  cases q
  all_goals
    go_wp2_with fail
    refine (readSpan_yes all lo hi ha a hla f t Hs _ (hT.drew k)).mono ?_
    rintro e w' ⟨rfl, k2, rfl⟩
    go_wp2_with fail
    refine (readNumber_any b _ none Hn).mono ?_
    rintro e w' ⟨rfl, rfl⟩
    go_wp2_with fail
    go_ret2
    exact ⟨rfl, _, rfl⟩

set_option maxHeartbeats 1600000 in
theorem readItem_st_zero (all lo hi : Nat) (ha : Al all lo hi) (l a b : List UInt8) (hl : l.length ≤ 200) (hla : a.length ≤ 200) (HK : Hid (Lib.cut l [47] = (a, b, true))) (f t : Int) (Hs : Hid (spanO lo hi a = some (f, t))) (Hn : Hid (numO b = some 0)) (w : World) (hT : Tx w) :
    Calls Tryd.prog 33 #[.string ⟨l.toArray⟩, .int .u64 all] w fun e w' => e = .returned (.tuple #[.int .u64 0, .bool false]) ∧ ∃ n, w' = w.drewN n := by
  have c := cut_any l 47 a b true HK w hT hl
  generalize ByteArray.mk l.toArray = s at *
  go_enter Tryd.func33, Tryd.ntmps33
  go_wp2_with (first | (go_at_call 45; refine c.mono ?_; rintro e w' ⟨rfl, k, rfl⟩))
  refine (member_some all lo hi ha a _).mono ?_
  rintro e w' ⟨v, q, rfl, rfl⟩
  cases q
  all_goals
    go_wp2_with fail
    refine (readSpan_yes all lo hi ha a hla f t Hs _ (hT.drew k)).mono ?_
    rintro e w' ⟨rfl, k2, rfl⟩
    go_wp2_with fail
    refine (readNumber_any b _ (some 0) Hn).mono ?_
    rintro e w' ⟨rfl, rfl⟩
    go_wp2_with fail
    go_ret2
    exact ⟨rfl, _, rfl⟩

/-- An item, whatever it is. -/
theorem readItem_any (all lo hi : Nat) (ha : Al all lo hi) (l : List UInt8) (hl : l.length ≤ 200) (r : Option Nat) (HR : Hid (itemO lo hi l = r)) (w : World) (hT : Tx w) :
    Calls Tryd.prog 33 #[.string ⟨l.toArray⟩, .int .u64 all] w fun e w' => e = .returned (.tuple #[.int .u64 ((r.getD 0 : Nat) : Int), .bool r.isSome]) ∧ ∃ n, w' = w.drewN n := by
  obtain ⟨a, b, st, hk⟩ : ∃ a b st, Lib.cut l [47] = (a, b, st) := ⟨_, _, _, rfl⟩
  have hla : a.length ≤ 200 := by have := cut_len hk; omega
  have hr := HR.out
  have htop := ha.top
  have hlow := ha.low
  cases st with
  | false =>
    cases hm : memO lo hi a with
    | some n =>
      rw [item_one hk hm] at hr
      subst hr
      have hb := (mem_open hm).2
      exact readItem_one all lo hi ha l a b hl hk n hm (by omega) (by omega) w hT
    | none =>
      rw [item_all hk hm] at hr
      cases hs : spanO lo hi a with
      | none =>
        rw [hs] at hr
        subst hr
        exact readItem_bad all lo hi ha l a b false hl hla hk hm hs w hT
      | some p =>
        obtain ⟨f, t⟩ := p
        rw [hs] at hr
        subst hr
        have hb := span_in hs hlow
        exact readItem_all all lo hi ha l a b hl hla hk hm f t hs (by omega) (by omega) (by omega) w hT
  | true =>
    rw [item_step hk] at hr
    cases hs : spanO lo hi a with
    | none =>
      rw [hs] at hr
      subst hr
      exact readItem_st_bad all lo hi ha l a b hl hla hk hs w hT
    | some p =>
      obtain ⟨f, t⟩ := p
      have hb := span_in hs hlow
      rw [hs] at hr
      cases hn : numO b with
      | none =>
        rw [hn] at hr
        subst hr
        exact readItem_st_none all lo hi ha l a b hl hla hk f t hs hn w hT
      | some st =>
        rw [hn] at hr
        have hg := num_ge hn
        simp only [Option.bind_some] at hr
        by_cases e : st = 0
        · subst e
          rw [if_pos rfl] at hr
          subst hr
          exact readItem_st_zero all lo hi ha l a b hl hla hk f t hs hn w hT
        · rw [if_neg e] at hr
          subst hr
          exact readItem_st_step all lo hi ha l a b hl hla hk f t hs (by omega) (by omega) (by omega) st hn (by omega) (by omega) w hT
end Go.Proofs.YthebcdadoinflaaDoor
