/- Package pack: inOrder, fill. -/
import Derived.Test.YtfnkboegbclnaaaKpc
import Derived.Shelf.RegionOpenPlain
namespace Go.Proofs.Ytfnkboegbclnaaa
open Go.RowKit
set_option linter.unusedSectionVars false
set_option linter.unusedVariables false

theorem owns_base' {w : World} {B B' : Nat} {e : TypeId} {k : Nat} {v : Value} {n : Nat} {xs : List Value} (h : w.ownsRow B e k v n xs) (hB : B' ≤ B) : w.ownsRow B' e k v n xs :=
  ⟨h.1, h.2.imp id fun ⟨g, cap, cur, hv, hb, r⟩ => ⟨g, cap, cur, hv, Nat.le_trans hB hb, r⟩⟩
theorem below_app {B Bq : Nat} {w w4 w5 : World} {o : Obj} {v : Value} {n : Nat} {e : TypeId} {k : Nat} {xs : List Value} (h : Below B w w4) (hr : w4.ownsRow Bq e k v n xs) (hg : (w4.alloc o).grownBy w5 v.ownBlock) (hB : B ≤ Bq) (hs : Bq ≤ w4.heap.size) : Below B w w5 := by
  refine ⟨hg.os.trans h.os, hg.tape.trans h.tape, hg.output.trans h.output, ?_, fun k hk => ?_⟩
  · have h1 := hg.size
    have h2 := h.size
    simp at h1
    omega
  · rw [hg.block k (by simp; omega) (fun e => by have := (hr.lt k e.symm).1; omega), Below.heap_alloc _ _ _ (by omega), h.block k hk]

set_option maxHeartbeats 1000000 in
set_option maxRecDepth 100000 in
theorem inOrder_any {w : World} {n c : Nat} (q : Option Addr) (hn : n ≤ 1000) :
    Calls Try.prog 24 #[.slice q n c] w fun e w' => e = .returned (.slice (some ⟨w.heap.size, 0, none⟩) n n) ∧ w'.ownsRow w.heap.size 3 1 (.slice (some ⟨w.heap.size, 0, none⟩) n n) n (numf (fun j => (j : Int)) n) ∧ Below w.heap.size w w' := by
  have hnH : Hid (n ≤ 1000) := hn
  clear hn
  go_enter Try.func24, Try.ntmps24
  go_wp2_with (first
    | (at_make; obtain ⟨i0, hi, hz0, hz1, hz2⟩ := info_parts info_int; refine wpList_make_full _ rfl _ _ 23 rfl w.heap.size 3 i0 (.int .i64 0) 1 Try.underlying23 hi hz0 hz1 _ _ _ _ n rfl rfl rfl rfl (by rw [hz2]; have := hnH.out; omega) (by unfold maxLen; have := hnH.out; omega) (Nat.le_refl _) ?_; intro w1 hown1 hgrow1; clear hi hz0 hz1 hz2)
    | go_in)
  have hat1 : w1.ownsRow w.heap.size 3 1 (.slice (some ⟨w.heap.size, 0, none⟩) n n) n (numf (fun _ => 0) n) := by
    have e : (madeCells (Value.int .i64 0).cells (n * 1)).toList = numf (fun _ => 0) n := by
      rw [numf_zero, Nat.mul_one]
      exact toList_madeCells_one _ _
    rw [← e]; exact hown1
  have hB1 : Below w.heap.size w w1 := ⟨hgrow1.os, hgrow1.tape, hgrow1.output, hgrow1.size, fun k hk => hgrow1.block k hk (by simp)⟩
  clear hown1 hgrow1
  generalize hgb : w.heap.size = gb at *
  have hgbH : Hid (w.heap.size = gb) := hgb
  clear hgb
  go_loopw [10] (fun kv wr => ∃ (k : Nat), kv = .int .i64 k ∧ k ≤ n ∧ wr.ownsRow gb 3 1 (.slice (some ⟨gb, 0, none⟩) n n) n (numf (fun j => if j < k then (j : Int) else 0) n) ∧ Below gb w wr)
    (fun kv _ => n - (intOf kv).toNat)
  case atStart => exact ⟨0, rfl, Nat.zero_le _, by simpa using hat1, hB1⟩
  case round =>
    clear hat1 hB1
    obtain ⟨k, rfl, hkn, hown, hbl⟩ := hrel
    by_cases hk : k < n
    · have hki : (k : Int) < (n : Int) := by omega
      have hkH : Hid (k < n) := hk
      have hk2 : Hid (k ≤ 100000) := by have := hnH.out; show _ ≤ _; omega
      have y0 : wr.cell? ⟨gb, k, none⟩ = some (.int .i64 (if k < k then (k : Int) else 0)) := by rw [hown.cellAt k (by omega), numf_get hk]
      have f0 := owns_frz hown k
      have hownH : Hid _ := hown
      have hblH : Hid (Below gb w wr) := hbl
      clear hown hbl hk
      go_wp2
      refine ⟨⟨k + 1, ?_, hkH.out, ?_, ?_⟩, ?_⟩
      · first | exact int_succ k | exact int_wsucc hk2.out
      · have h2 := owns_store hownH.out (j := k) (.int .i64 (k : Int))
        rw [numf_set] at h2
        have e : numf (fp (fun j => if j < k then (j : Int) else 0) k (k : Int)) n = numf (fun j => if j < k + 1 then (j : Int) else 0) n := numf_congr fun j _ => by
          unfold fp
          by_cases e1 : j = k
          · rw [if_pos e1, if_pos (by omega), e1]
          · rw [if_neg e1]
            show (if j < k then (j : Int) else 0) = _
            by_cases e2 : j < k
            · rw [if_pos e2, if_pos (by omega)]
            · rw [if_neg e2, if_neg (by omega)]
        rw [← e]
        exact h2
      · exact hblH.out.setCell (Nat.le_refl gb) _
      · first | exact meas_1 hkH.out | exact meas_w hkH.out hk2.out
    · have hki : ¬ (k : Int) < (n : Int) := by omega
      have e : k = n := by omega
      subst e
      have e2 : numf (fun j => if j < k then (j : Int) else 0) k = numf (fun j => (j : Int)) k := numf_congr fun j hj => by rw [if_pos hj]
      rw [e2] at hown
      clear e2
      go_wp2
      go_ret
      rw [hgbH.out]
      exact ⟨rfl, hown, hbl⟩

theorem stMixedK : Try.prog.follows Departure.mixedOrders = true := by kernel_rfl

/-! ### fill -/
structure Fs where
  m : Nat
  rm : Nat → Int
  inn : Nat → Int
def fst (l : List Int) (size : Int) (s : Fs) (i : Nat) : Fs :=
  match ((List.range s.m).map s.rm).findIdx? (fun r => decide (nm l i ≤ r)) with
  | some b => ⟨s.m, fp s.rm b (s.rm b - nm l i), fp s.inn i (b : Int)⟩
  | none => ⟨s.m + 1, fp (fp s.rm s.m size) s.m (size - nm l i), fp s.inn i (s.m : Int)⟩
def fsA (l : List Int) (size : Int) (R : List Nat) : Fs := R.foldl (fst l size) ⟨0, fun _ => 0, fun _ => 0⟩
theorem fsA_snoc (l : List Int) (size : Int) (R : List Nat) (i : Nat) : fsA l size (R ++ [i]) = fst l size (fsA l size R) i := by simp [fsA]
/-- What is true of the boxes all along. -/
structure FsOk (l : List Int) (size : Int) (k : Nat) (s : Fs) : Prop where
  m : s.m ≤ k
  lo : ∀ b, b < s.m → 0 ≤ s.rm b
  hi : ∀ b, b < s.m → s.rm b ≤ size
theorem rm_get {s : Fs} {b : Nat} (h : b < ((List.range s.m).map s.rm).length) : ((List.range s.m).map s.rm)[b] = s.rm b := by simp
theorem FsOk.step {l : List Int} {size : Int} {k i : Nat} {s : Fs} (h : FsOk l size k s) (hx : 1 ≤ nm l i ∧ nm l i ≤ size) : FsOk l size (k + 1) (fst l size s i) := by
  unfold fst
  cases e : ((List.range s.m).map s.rm).findIdx? (fun r => decide (nm l i ≤ r)) with
  | some b =>
    obtain ⟨hj, h1, _⟩ := List.findIdx?_eq_some_iff_getElem.1 e
    rw [rm_get hj] at h1
    have hb : b < s.m := by simpa using hj
    have h2 : nm l i ≤ s.rm b := of_decide_eq_true h1
    refine ⟨Nat.le_succ_of_le h.m, fun c hc => ?_, fun c hc => ?_⟩
    · show 0 ≤ fp s.rm b (s.rm b - nm l i) c
      by_cases ec : c = b
      · rw [ec, fp_same]; omega
      · rw [fp_ne ec]; exact h.lo c hc
    · show fp s.rm b (s.rm b - nm l i) c ≤ size
      by_cases ec : c = b
      · rw [ec, fp_same]; have := h.hi b hb; omega
      · rw [fp_ne ec]; exact h.hi c hc
  | none =>
    refine ⟨Nat.succ_le_succ h.m, fun c hc => ?_, fun c hc => ?_⟩
    · show 0 ≤ fp (fp s.rm s.m size) s.m (size - nm l i) c
      by_cases ec : c = s.m
      · rw [ec, fp_same]; omega
      · rw [fp_ne ec, fp_ne ec]; exact h.lo c (by have : c < s.m + 1 := hc; omega)
    · show fp (fp s.rm s.m size) s.m (size - nm l i) c ≤ size
      by_cases ec : c = s.m
      · rw [ec, fp_same]; omega
      · rw [fp_ne ec, fp_ne ec]; exact h.hi c (by have : c < s.m + 1 := hc; omega)
theorem fold_ok {l : List Int} {size : Int} (hl : ∀ x ∈ l, 1 ≤ x ∧ x ≤ size) : ∀ (R : List Nat) (k : Nat) (s : Fs), (∀ i ∈ R, i < l.length) → FsOk l size k s → FsOk l size (k + R.length) (R.foldl (fst l size) s) := by
  intro R
  induction R with
  | nil => intro k s _ h; exact h
  | cons i R ih =>
    intro k s hi h
    have h2 := ih (k + 1) (fst l size s i) (fun j hj => hi j (List.mem_cons_of_mem _ hj)) (h.step (hl _ (nm_mem (hi i (List.mem_cons_self ..)))))
    rw [List.length_cons, show k + (R.length + 1) = k + 1 + R.length by omega]
    exact h2
theorem fsA_ok {l : List Int} {size : Int} (hl : ∀ x ∈ l, 1 ≤ x ∧ x ≤ size) (R : List Nat) (hR : ∀ i ∈ R, i < l.length) : FsOk l size R.length (fsA l size R) := by
  have := fold_ok hl R 0 ⟨0, fun _ => 0, fun _ => 0⟩ hR ⟨Nat.le_refl _, fun b hb => absurd hb (Nat.not_lt_zero _), fun b hb => absurd hb (Nat.not_lt_zero _)⟩
  rwa [Nat.zero_add] at this
theorem fill1_any {w : World} {b hi i c : Nat} {q : Option Addr} {l : List Int} (left : Int) (hl : Nums w q l) (hi2 : i < l.length) (h1 : w.cell? ⟨b, 0, none⟩ = some (.slice q l.length c)) (h2 : w.cell? ⟨hi, 0, none⟩ = some (.int .i64 (i : Int))) :
    Calls Try.prog 35 #[.int .i64 left, .pointer (some ⟨b, 0, none⟩), .pointer (some ⟨hi, 0, none⟩)] w fun e w' => e = .returned (.bool (decide (nm l i ≤ left))) ∧ w' = w := by
  rcases hl with h0 | ⟨g, o, rfl, hA⟩
  · omega
  have z0 := hA.c i hi2
  have hii : (i : Int) < (l.length : Int) := by omega
  generalize nm l i = x at *
  clear hA hi2
  go_enter Try.func35, Try.ntmps35
  go_wp2
  go_ret
  exact ⟨by first | rfl | simp, rfl⟩

set_option maxHeartbeats 1000000 in
set_option maxRecDepth 100000 in
theorem fill_any {w : World} {ql qr : Option Addr} {l : List Int} {R : List Nat} {cl cr : Nat} {size : Int} (hl : Nums w ql l) (hR : Nums w qr (R.map fun (i : Nat) => (i : Int))) (hn : l.length ≤ 1000) (hr : R.length ≤ 1000) (hs : size ≤ 1099511627776) (hx : ∀ x ∈ l, 1 ≤ x ∧ x ≤ size) (hi : ∀ i ∈ R, i < l.length) :
    Calls Try.prog 23 #[.slice ql l.length cl, .int .i64 size, .slice qr R.length cr] w fun e w' => (∃ g, e = .returned (.tuple #[.slice (some ⟨g, 0, none⟩) l.length l.length, .int .i64 ((fsA l size R).m : Int)]) ∧ w'.ownsRow w.heap.size 3 1 (.slice (some ⟨g, 0, none⟩) l.length l.length) l.length (numf (fsA l size R).inn l.length)) ∧ Below w.heap.size w w' := by
  have hnH : Hid (l.length ≤ 1000) := hn
  have hrH : Hid (R.length ≤ 1000) := hr
  have hsH : Hid (size ≤ 1099511627776) := hs
  have hxH : Hid (∀ x ∈ l, 1 ≤ x ∧ x ≤ size) := hx
  have hiH : Hid (∀ i ∈ R, i < l.length) := hi
  have hbA : Hid (Below w.heap.size w (w.alloc (.cells #[.slice ql l.length cl] 22))) := (Below.refl _ _).alloc (Nat.le_refl _) _
  have hc0 : (w.alloc (.cells #[.slice ql l.length cl] 22)).cell? ⟨w.heap.size, 0, none⟩ = some (.slice ql l.length cl) := (cell_of_row _ _ 0 _ _ _ (heap_alloc_new w (.cells #[.slice ql l.length cl] 22))).trans rfl
  have hc0H : Hid ((w.alloc (.cells #[.slice ql l.length cl] 22)).cell? ⟨w.heap.size, 0, none⟩ = some (.slice ql l.length cl)) := hc0
  have hlq : Hid (∀ g o, ql = some ⟨g, o, none⟩ → l.length ≠ 0 → g < w.heap.size) := fun g o e h0 => by
    rcases hl with h1 | ⟨b, o2, e2, hA⟩
    · exact absurd h1 h0
    · rw [e] at e2; cases e2; exact hA.lt
  have hlA : Hid (Nums (w.alloc (.cells #[.slice ql l.length cl] 22)) ql l) := hl.below hbA.out (Nat.le_refl _)
  have hRA : Hid (Nums (w.alloc (.cells #[.slice ql l.length cl] 22)) qr (R.map fun (i : Nat) => (i : Int))) := hR.below hbA.out (Nat.le_refl _)
  have hsz : (w.alloc (.cells #[.slice ql l.length cl] 22)).heap.size = w.heap.size + 1 := by simp
  have hszH : Hid ((w.alloc (.cells #[.slice ql l.length cl] 22)).heap.size = w.heap.size + 1) := hsz
  clear hsz
  clear hn hr hs hx hi hl hR
  obtain ⟨n, hnn⟩ : ∃ n, n = l.length := ⟨_, rfl⟩
  rw [← hnn] at hnH hiH hc0 hc0H hbA hlA hRA hszH ⊢
  have hnnH : Hid (n = l.length) := hnn
  clear hnn
  go_enter Try.func23, Try.ntmps23
  go_wp2_with (first
    | (at_make; obtain ⟨i0, hi, hz0, hz1, hz2⟩ := info_parts info_int; refine wpList_make_full _ rfl _ _ 23 rfl (w.alloc (.cells #[.slice ql n cl] 22)).heap.size 3 i0 (.int .i64 0) 1 Try.underlying23 hi hz0 hz1 _ _ _ _ n rfl rfl rfl rfl (by rw [hz2]; have := hnH.out; omega) (by unfold maxLen; have := hnH.out; omega) (Nat.le_refl _) ?_; intro w1 hown1 hgrow1; clear hi hz0 hz1 hz2)
    | go_in)
  clear hc0
  generalize w.alloc (.cells #[.slice ql n cl] 22) = wa at *
  have hat1 : w1.ownsRow wa.heap.size 3 1 (.slice (some ⟨wa.heap.size, 0, none⟩) n n) n (numf (fun _ => 0) n) := by
    have e : (madeCells (Value.int .i64 0).cells (n * 1)).toList = numf (fun _ => 0) n := by
      rw [numf_zero, Nat.mul_one]
      exact toList_madeCells_one _ _
    rw [← e]; exact hown1
  have hB1 : Below wa.heap.size wa w1 := ⟨hgrow1.os, hgrow1.tape, hgrow1.output, hgrow1.size, fun k hk => hgrow1.block k hk (by simp)⟩
  have hg1 : wa.heap.size < w1.heap.size := (hat1.lt _ rfl).2
  clear hown1 hgrow1
  obtain ⟨b0, hb0⟩ : ∃ b0, b0 = w.heap.size := ⟨_, rfl⟩
  rw [← hb0] at hbA hc0H hszH hlq ⊢
  obtain ⟨gb, hgb⟩ : ∃ gb, gb = b0 + 1 := ⟨_, rfl⟩
  have hgbH : Hid (gb = wa.heap.size) := by show _ = _; rw [hgb, hszH.out]
  rw [← hgbH.out] at hat1 hB1 hg1
  rw [← hgb]
  have hb0H : Hid (b0 = w.heap.size) := hb0
  have hb1H : Hid (gb = b0 + 1) := hgb
  have hg1H : Hid (gb < w1.heap.size) := hg1
  clear hgb hb0 hg1
  go_loopw [9, 18] (fun ov kv wr => ∃ (k : Nat) (q : Option Addr) (c : Nat), kv = .int .i64 k ∧ ov = .slice q (fsA l size (R.take k)).m c ∧ k ≤ R.length ∧ wr.ownsRow w1.heap.size 2 1 (.slice q (fsA l size (R.take k)).m c) (fsA l size (R.take k)).m (numf (fsA l size (R.take k)).rm (fsA l size (R.take k)).m) ∧ wr.ownsRow gb 3 1 (.slice (some ⟨gb, 0, none⟩) n n) n (numf (fsA l size (R.take k)).inn n) ∧ Below gb wa wr ∧ w1.heap.size ≤ wr.heap.size)
    (fun _ kv _ => R.length - (intOf kv).toNat)
  case atStart => exact ⟨0, none, 0, rfl, rfl, Nat.zero_le _, World.ownsRow_nil _ _ _ _, hat1, hB1, Nat.le_refl _⟩
  case round =>
    clear hat1 hB1
    obtain ⟨k, q, c, rfl, rfl, hkR, hrow, hin, hbl, hsw⟩ := hrel
    by_cases hk : k < R.length
    · have hkz : (k : Int) < (R.length : Int) := by omega
      have hkH : Hid (k < R.length) := hk
      have hk2 : Hid (k ≤ 100000) := by have := hrH.out; show _ ≤ _; omega
      obtain ⟨i, hi⟩ : ∃ i, i = R[k] := ⟨_, rfl⟩
      have hin2 : Hid (i < n) := hiH.out i (by rw [hi]; exact List.getElem_mem hk)
      have hiz : (i : Int) < (n : Int) := by have := hin2.out; omega
      have htk : Hid (fsA l size (R.take (k + 1)) = fst l size (fsA l size (R.take k)) i) := by show _ = _; rw [List.take_succ_eq_append_getElem hk, fsA_snoc]; exact congrArg (fst l size _) hi.symm
      have hok : Hid (FsOk l size k (fsA l size (R.take k))) := by
        have := fsA_ok hxH.out (R.take k) (fun j hj => by rw [← hnnH.out]; exact hiH.out j (List.mem_of_mem_take hj))
        rwa [List.length_take, Nat.min_eq_left hkR] at this
      generalize fsA l size (R.take k) = s at *
      rcases hRA.out.below hbl (Nat.le_of_eq hgbH.out.symm) with h0 | ⟨b, o, rfl, hA⟩
      · rw [List.length_map] at h0; omega
      have z0 := hA.c k (by rw [List.length_map]; exact hk)
      have ez : nm (R.map fun (i : Nat) => (i : Int)) k = (i : Int) := by rw [nm_get (by rw [List.length_map]; exact hk), List.getElem_map]; exact congrArg (fun (z : Nat) => (z : Int)) hi.symm
      rw [ez] at z0
      have hrowH : Hid (wr.ownsRow w1.heap.size 2 1 (.slice q s.m c) s.m (numf s.rm s.m)) := hrow
      have hinH : Hid (wr.ownsRow gb 3 1 (.slice (some ⟨gb, 0, none⟩) n n) n (numf s.inn n)) := hin
      have hblH : Hid (Below gb wa wr) := hbl
      have hswH : Hid (w1.heap.size ≤ wr.heap.size) := hsw
      clear ez hA hi hkR hk hrow hin hbl hsw
      go_wp2_with fail
      have hlB : Hid (Nums (wr.alloc (.cells #[.int .i64 (i : Int)] 3)) ql l) := (hlA.out.below hblH.out (Nat.le_of_eq hgbH.out.symm)).below ((Below.refl _ _).alloc (Nat.le_refl _) _) (Nat.le_refl _)
      have hgs : gb < wr.heap.size := Nat.lt_of_lt_of_le hg1H.out hswH.out
      have cB : (wr.alloc (.cells #[.int .i64 (i : Int)] 3)).cell? ⟨b0, 0, none⟩ = some (.slice ql n cl) := cell_alloc ((hblH.out.cell (p := ⟨b0, 0, none⟩) (by show b0 < gb; rw [hb1H.out]; exact Nat.lt_succ_self _)).trans hc0H.out) _
      have cI : (wr.alloc (.cells #[.int .i64 (i : Int)] 3)).cell? ⟨wr.heap.size, 0, none⟩ = some (.int .i64 (i : Int)) := (cell_of_row _ _ 0 _ _ _ (heap_alloc_new wr (.cells #[.int .i64 (i : Int)] 3))).trans rfl
      have hrowA : Hid ((wr.alloc (.cells #[.int .i64 (i : Int)] 3)).ownsRow w1.heap.size 2 1 (.slice q s.m c) s.m (numf s.rm s.m)) := hrowH.out.alloc _
      have hinA : Hid ((wr.alloc (.cells #[.int .i64 (i : Int)] 3)).ownsRow gb 3 1 (.slice (some ⟨gb, 0, none⟩) n n) n (numf s.inn n)) := hinH.out.alloc _
      have hblA : Hid (Below gb wa (wr.alloc (.cells #[.int .i64 (i : Int)] 3))) := hblH.out.alloc (Nat.le_of_lt hgs) _
      have hhH : Hid (gb < wr.heap.size ∧ w1.heap.size ≤ wr.heap.size ∧ wr.heap.size < (wr.alloc (.cells #[.int .i64 (i : Int)] 3)).heap.size) := ⟨hgs, hswH.out, by simp⟩
      have hgrH : Hid (∀ g0, q = some ⟨g0, 0, none⟩ → g0 < wr.heap.size) := fun g0 e => (hrowH.out.lt g0 (by rw [e]; rfl)).2
      have hidx := indexF_fill (c := c) (fun r => decide (nm l i ≤ r)) b0 wr.heap.size (nums_row hrowA.out) (by rw [List.length_map, List.length_range]; have := hok.out.m; have := hkH.out; have := hrH.out; omega) (fun r _ => fill1_any r hlB.out (by rw [← hnnH.out]; exact hin2.out) (by rw [← hnnH.out]; exact cB) cI)
      rw [List.length_map, List.length_range] at hidx
      have hmk : Hid (s.m ≤ 1000) := by show _ ≤ _; have := hok.out.m; have := hkH.out; have := hrH.out; omega
      obtain ⟨b1, o1, rfl, hA⟩ := hlB.out.resolve_left (fun e => by have := hin2.out; have := hnnH.out; omega)
      have zl := hA.c i (by rw [← hnnH.out]; exact hin2.out)
      have hb1lt : Hid (b1 < b0) := hlq.out b1 o1 rfl (by have := hin2.out; have := hnnH.out; omega)
      have hxi := hxH.out _ (nm_mem (show i < l.length by rw [← hnnH.out]; exact hin2.out))
      have hxiH : Hid (1 ≤ nm l i ∧ nm l i ≤ size) := hxi
      clear hgs hblH hrowH hinH hswH hA hxi
      have hw3 : Hid (Below gb wa (wr.alloc (.cells #[.int .i64 (i : Int)] 3)) ∧ w1.heap.size ≤ (wr.alloc (.cells #[.int .i64 (i : Int)] 3)).heap.size) := ⟨hblA.out, by have := hhH.out; omega⟩
      generalize wr.alloc (.cells #[.int .i64 (i : Int)] 3) = wc at *
      generalize wr.heap.size = hb at *
      clear z0
      cases hfi : ((List.range s.m).map s.rm).findIdx? (fun r => decide (nm l i ≤ r)) with
      | some bx =>
        obtain ⟨hj, hle, hrest⟩ := List.findIdx?_eq_some_iff_getElem.1 hfi
        rw [rm_get hj] at hle
        have hbm : bx < s.m := by simpa using hj
        have hz : fz (fun r => decide (nm l i ≤ r)) ((List.range s.m).map s.rm) = (bx : Int) := by unfold fz; rw [hfi]
        rw [hz] at hidx
        have htk2 : Hid (fsA l size (R.take (k + 1)) = ⟨s.m, fp s.rm bx (s.rm bx - nm l i), fp s.inn i (bx : Int)⟩) := by show _ = _; rw [htk.out]; unfold fst; rw [hfi]
        have hbmH : Hid (bx < s.m) := hbm
        have hxl : nm l i ≤ s.rm bx := of_decide_eq_true hle
        obtain ⟨gr, rfl, y0, hgr⟩ := row_num hrowA.out hbm
        have f0 := owns_frz hrowA.out bx
        have hne : Hid (gr ≠ gb ∧ gb ≤ gr ∧ gr ≠ hb) := by have h1 := hgrH.out gr rfl; have h2 := hg1H.out; exact ⟨by omega, by omega, by omega⟩
        have hwx : IntKind.i64.wrap (s.rm bx - nm l i) = s.rm bx - nm l i := by rw [IntKind.wrap_i64]; have h1 := hok.out.hi bx hbm; have h2 := hxiH.out; have h3 := hsH.out; omega
        have bz : (bx : Int) < (s.m : Int) := by omega
        have bz2 : ¬ (bx : Int) < 0 := by omega
        have mixed := stMixedK
        clear hrest hle hj hfi hz hbm hgr
        go_wp2_with (first
          | (go_at_call 34; refine hidx.mono ?_; rintro e w' ⟨rfl, hw'⟩; have hw'' := hw'.symm; subst hw''; clear hidx)
          | fail)
        go_big_region_o
        have hrow7 : Hid (((wc.setCell ⟨gr, bx, none⟩ (.int .i64 (s.rm bx - nm l i))).drew).ownsRow w1.heap.size 2 1 (.slice (some ⟨gr, 0, none⟩) (s.m) c) (s.m) (numf (fp (s.rm) (bx) (s.rm bx - nm l i)) (s.m))) := by
          have h2 := owns_store hrowA.out (j := bx) (.int .i64 (s.rm bx - nm l i))
          rw [numf_set] at h2
          exact h2
        have hin7 : Hid (((wc.setCell ⟨gr, bx, none⟩ (.int .i64 (s.rm bx - nm l i))).drew).ownsRow gb 3 1 (.slice (some ⟨gb, 0, none⟩) n n) n (numf s.inn n)) := owns_set_other hinA.out _ _ (fun g e => by cases e; exact (hne.out.1).symm)
        have hw7 : Hid (Below gb wa ((wc.setCell ⟨gr, bx, none⟩ (.int .i64 (s.rm bx - nm l i))).drew) ∧ w1.heap.size ≤ ((wc.setCell ⟨gr, bx, none⟩ (.int .i64 (s.rm bx - nm l i))).drew).heap.size) := ⟨(hw3.out.1.setCell hne.out.2.1 _).drew, by have := hw3.out.2; simpa [World.setCell] using this⟩
        have cI7 : ((wc.setCell ⟨gr, bx, none⟩ (.int .i64 (s.rm bx - nm l i))).drew).cell? ⟨hb, 0, none⟩ = some (.int .i64 (i : Int)) := (World.cell?_setCell_other _ _ _ _ (by intro e; simp only [Addr.mk.injEq] at e; exact hne.out.2.2 e.1)).trans cI
        clear cB cI zl y0 f0 hxl bz bz2 hwx
        generalize (wc.setCell ⟨gr, bx, none⟩ (.int .i64 (s.rm bx - nm l i))).drew = w7 at *
        have y7 : w7.cell? ⟨gb, i, none⟩ = some (.int .i64 (s.inn i)) := by rw [hin7.out.cellAt i (by have := hin2.out; omega), numf_get hin2.out]
        have f7 := owns_frz hin7.out i
        go_wp2
        refine ⟨⟨k + 1, some ⟨gr, 0, none⟩, c, ?_, by rw [htk2.out], hkH.out, ?_, ?_, ?_, ?_⟩, ?_⟩
        · first | exact int_succ k | exact int_wsucc hk2.out
        · rw [htk2.out]
          exact owns_set_other hrow7.out _ _ (fun g e => by cases e; exact hne.out.1)
        · rw [htk2.out]
          have h2 := owns_store hin7.out (j := i) (.int .i64 (bx : Int))
          rw [numf_set] at h2
          exact h2
        · exact hw7.out.1.setCell (Nat.le_refl gb) _
        · have := hw7.out.2; simpa [World.setCell] using this
        · first | exact meas_1 hkH.out | exact meas_w hkH.out hk2.out
      | none =>
        have hz : fz (fun r => decide (nm l i ≤ r)) ((List.range s.m).map s.rm) = -1 := by unfold fz; rw [hfi]
        rw [hz] at hidx
        have htk2 : Hid (fsA l size (R.take (k + 1)) = ⟨s.m + 1, fp (fp s.rm s.m size) s.m (size - nm l i), fp s.inn i (s.m : Int)⟩) := by show _ = _; rw [htk.out]; unfold fst; rw [hfi]
        clear hfi hz
        have hone : (-1 : Int) < 0 := by decide
        have hrA := hrowA.out
        have hm9 := hmk.out
        have hsB := hhH.out
        go_wp2_with (first
          | (go_at_call 34; refine hidx.mono ?_; rintro e w' ⟨rfl, hw'⟩; have hw'' := hw'.symm; subst hw''; clear hidx)
          | (at_builtin; obtain ⟨i0, hi9, hz0, hz1, hz2⟩ := info_parts info_i64; refine wpList_append_own_at _ rfl _ _ 22 rfl w1.heap.size 2 i0 (.int .i64 0) 1 8 Try.underlying22 hi9 hz0 hz1 hz2 rfl (by decide) _ _ _ rfl (hrA.alloc _) ⟨wc.heap.size, 0, none⟩ 1 1 [.int .i64 size] rfl rfl (cells_new _ _ _) (fun v hv => by simp at hv; subst hv; rfl) (by unfold maxLen; omega) (by omega) (by simp; omega) ?_; intro v' w6 hown6 hgrow6 hnil6 hloc6; clear hi9 hz0 hz1 hz2 hnil6; obtain ⟨gr, cap6, rfl⟩ := form_succ hown6)
          | fail)
        have hrow6 : Hid (w6.ownsRow w1.heap.size 2 1 (.slice (some ⟨gr, 0, none⟩) (s.m + 1) cap6) (s.m + 1) (numf (fp s.rm s.m size) (s.m + 1))) := by
          have h9 := hown6
          rw [numf_snoc, fp_same, numf_congr (E' := s.rm) (fun j hj => fp_ne (by omega))]
          exact h9
        have hgA : (wc.alloc (.cells #[.int .i64 size] 2)).grownBy w6 (Value.ownBlock (.slice q s.m c)) := hgrow6
        have hqo : ∀ g0, Value.ownBlock (.slice q s.m c) = some g0 → g0 < hb ∧ gb < g0 := fun g0 e => by
          have h1 := hrowA.out.lt g0 e
          have h2 := hg1H.out
          have h3 : q = some ⟨g0, 0, none⟩ := by
            rcases hrowA.out.2 with ⟨h4, _⟩ | ⟨g4, c4, u4, h4, _⟩
            · simp only [Value.slice.injEq] at h4; rw [h4.1] at e; cases e
            · obtain ⟨rfl, _⟩ : q = some ⟨g4, 0, none⟩ ∧ c = c4 := by simpa using h4
              cases e; rfl
          exact ⟨hgrH.out g0 h3, by omega⟩
        have hb9 := hhH.out
        have hb8 := hb1H.out
        have cB6 : w6.cell? ⟨b0, 0, none⟩ = some (.slice (some ⟨b1, o1, none⟩) n cl) := hgA.cell (cell_alloc cB _) (fun e => by have := hqo b0 e.symm; omega)
        have cI6 : w6.cell? ⟨hb, 0, none⟩ = some (.int .i64 (i : Int)) := hgA.cell (cell_alloc cI _) (fun e => by have := hqo hb e.symm; omega)
        have zl6 : w6.cell? ⟨b1, o1 + i, none⟩ = some (.int .i64 (nm l i)) := hgA.cell (cell_alloc zl _) (fun e => by have h1 := hqo b1 e.symm; have h2 := hb1lt.out; omega)
        have hin6 : Hid (w6.ownsRow gb 3 1 (.slice (some ⟨gb, 0, none⟩) n n) n (numf s.inn n)) := (hinA.out.alloc _).kept hgA (Or.inr fun e => by have := hqo gb e.symm; omega)
        have hw6 : Hid (Below gb wa w6 ∧ w1.heap.size ≤ w6.heap.size) := ⟨below_app hw3.out.1 hrowA.out hgA (Nat.le_of_lt hg1H.out) hw3.out.2, by have h1 := hgA.size; have h2 := hw3.out.2; simp at h1; omega⟩
        have hne : Hid (gr ≠ gb ∧ gb ≤ gr ∧ gr ≠ hb) := by
          have h2 := hg1H.out
          rcases hloc6 with e | e
          · have := hqo gr e.symm; exact ⟨by omega, by omega, by omega⟩
          · have e3 : some gr = some (wc.alloc (.cells #[.int .i64 size] 2)).heap.size := e
            have e2 : gr = wc.heap.size + 1 := by have := Option.some.inj e3; simpa using this
            exact ⟨by omega, by omega, by omega⟩
        have y0 : w6.cell? ⟨gr, s.m, none⟩ = some (.int .i64 (fp s.rm s.m size s.m)) := by rw [hrow6.out.cellAt s.m (by omega), numf_get (Nat.lt_succ_self _)]
        have f0 := owns_frz hrow6.out s.m
        clear cB cI zl
        have cB := cB6
        have cI := cI6
        have zl := zl6
        have hxl : True := trivial
        have hwx : IntKind.i64.wrap (fp s.rm s.m size s.m - nm l i) = fp s.rm s.m size s.m - nm l i := by rw [fp_same, IntKind.wrap_i64]; have h2 := hxiH.out; have h3 := hsH.out; omega
        have bz : (s.m : Int) < (s.m : Int) + 1 := by omega
        have bz2 : ¬ (s.m : Int) < 0 := by omega
        have mixed := stMixedK
        clear cB6 cI6 zl6 hown6 hgrow6 hgA hqo hb9 hb8 hloc6 hsB hm9 hrA hone
        go_big_region_o
        have hrow7 : Hid (((w6.setCell ⟨gr, s.m, none⟩ (.int .i64 ((fp s.rm s.m size) s.m - nm l i))).drew).ownsRow w1.heap.size 2 1 (.slice (some ⟨gr, 0, none⟩) (s.m + 1) cap6) (s.m + 1) (numf (fp ((fp s.rm s.m size)) (s.m) ((fp s.rm s.m size) s.m - nm l i)) (s.m + 1))) := by
          have h2 := owns_store hrow6.out (j := s.m) (.int .i64 ((fp s.rm s.m size) s.m - nm l i))
          rw [numf_set] at h2
          exact h2
        have hin7 : Hid (((w6.setCell ⟨gr, s.m, none⟩ (.int .i64 ((fp s.rm s.m size) s.m - nm l i))).drew).ownsRow gb 3 1 (.slice (some ⟨gb, 0, none⟩) n n) n (numf s.inn n)) := owns_set_other hin6.out _ _ (fun g e => by cases e; exact (hne.out.1).symm)
        have hw7 : Hid (Below gb wa ((w6.setCell ⟨gr, s.m, none⟩ (.int .i64 ((fp s.rm s.m size) s.m - nm l i))).drew) ∧ w1.heap.size ≤ ((w6.setCell ⟨gr, s.m, none⟩ (.int .i64 ((fp s.rm s.m size) s.m - nm l i))).drew).heap.size) := ⟨(hw6.out.1.setCell hne.out.2.1 _).drew, by have := hw6.out.2; simpa [World.setCell] using this⟩
        have cI7 : ((w6.setCell ⟨gr, s.m, none⟩ (.int .i64 ((fp s.rm s.m size) s.m - nm l i))).drew).cell? ⟨hb, 0, none⟩ = some (.int .i64 (i : Int)) := (World.cell?_setCell_other _ _ _ _ (by intro e; simp only [Addr.mk.injEq] at e; exact hne.out.2.2 e.1)).trans cI
        clear cB cI zl y0 f0 hxl bz bz2 hwx
        generalize (w6.setCell ⟨gr, s.m, none⟩ (.int .i64 ((fp s.rm s.m size) s.m - nm l i))).drew = w7 at *
        have y7 : w7.cell? ⟨gb, i, none⟩ = some (.int .i64 (s.inn i)) := by rw [hin7.out.cellAt i (by have := hin2.out; omega), numf_get hin2.out]
        have f7 := owns_frz hin7.out i
        go_wp2
        refine ⟨⟨k + 1, some ⟨gr, 0, none⟩, cap6, ?_, by rw [htk2.out], hkH.out, ?_, ?_, ?_, ?_⟩, ?_⟩
        · first | exact int_succ k | exact int_wsucc hk2.out
        · rw [htk2.out]
          exact owns_set_other (by have h9 := hrow7.out; rw [numf_congr (E' := fp (fp s.rm s.m size) s.m (size - nm l i)) (fun j _ => by rw [fp_same])] at h9; exact h9) _ _ (fun g e => by cases e; exact hne.out.1)
        · rw [htk2.out]
          have h2 := owns_store hin7.out (j := i) (.int .i64 (s.m : Int))
          rw [numf_set] at h2
          exact h2
        · exact hw7.out.1.setCell (Nat.le_refl gb) _
        · have := hw7.out.2; simpa [World.setCell] using this
        · first | exact meas_1 hkH.out | exact meas_w hkH.out hk2.out
    · have hkz : ¬ (k : Int) < (R.length : Int) := by omega
      have e : k = R.length := by omega
      subst e
      rw [List.take_length] at hin hrow
      have e2 : (fsA l size (List.take R.length R)) = fsA l size R := by rw [List.take_length]
      rw [e2]
      have hblH : Hid (Below gb wa wr) := hbl
      have hinH : Hid _ := hin
      clear e2 hbl hin
      go_wp2
      (try simp only [Exit.inBlock, Exit.then]); refine bodyPost_ret (results_tmp2 rfl _ _ _) rfl ?_
      rw [← hb0H.out]
      exact ⟨⟨gb, rfl, owns_base' hinH.out (by rw [hb1H.out]; exact Nat.le_succ _)⟩, hbA.out.trans (hblH.out.mono (by rw [hb1H.out]; exact Nat.le_succ _))⟩
end Go.Proofs.Ytfnkboegbclnaaa
