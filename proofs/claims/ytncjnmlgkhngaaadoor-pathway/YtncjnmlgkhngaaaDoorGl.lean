/- Links among things as arrays of sets: steps, ways, the knot. -/
import Derived.Test.YtncjnmlgkhngaaaDoorGw
import Derived.Laws.Rows
import Derived.Laws.Tables
namespace Go.Proofs.YtncjnmlgkhngaaaDoor
open Go.RowKit Gm
set_option linter.unusedSectionVars false

/-- The cells of links: for each thing the set of those that it leads to. -/
def lk (r : Nat → Nat → Bool) : Array Value := ((List.range 60).map fun (i : Nat) => Value.int .u64 ((bs (r i) 60 : Nat) : Int)).toArray
theorem lk_size (r : Nat → Nat → Bool) : (lk r).size = 60 := by simp [lk]
theorem lk_get (r : Nat → Nat → Bool) {i : Nat} (hi : i < 60) : (lk r)[i]? = some (.int .u64 ((bs (r i) 60 : Nat) : Int)) := by
  simp [lk, hi]
def upd (r : Nat → Nat → Bool) (i : Nat) (p : Nat → Bool) : Nat → Nat → Bool := fun a => if a = i then p else r a
theorem lk_set (r : Nat → Nat → Bool) {i : Nat} (p : Nat → Bool) : (lk r).setIfInBounds i (.int .u64 ((bs p 60 : Nat) : Int)) = lk (upd r i p) := by
  apply Array.ext_getElem?
  intro j
  rw [Array.getElem?_setIfInBounds]
  by_cases hj : j < 60
  · rw [lk_get _ hj, lk_get _ hj, lk_size]
    by_cases e : i = j
    · subst e; simp [upd, hj]
    · rw [if_neg e]; simp [upd, Ne.symm e]
  · have h1 : (lk r)[j]? = none := by simp [lk_size]; omega
    have h2 : (lk (upd r i p))[j]? = none := by simp [lk_size]; omega
    rw [h1, h2]
    split
    · rw [lk_size]; split
      · omega
      · rfl
    · rfl
theorem lk_zero : (#[.int .u64 0, .int .u64 0, .int .u64 0, .int .u64 0, .int .u64 0, .int .u64 0, .int .u64 0, .int .u64 0, .int .u64 0, .int .u64 0, .int .u64 0, .int .u64 0, .int .u64 0, .int .u64 0, .int .u64 0, .int .u64 0, .int .u64 0, .int .u64 0, .int .u64 0, .int .u64 0, .int .u64 0, .int .u64 0, .int .u64 0, .int .u64 0, .int .u64 0, .int .u64 0, .int .u64 0, .int .u64 0, .int .u64 0, .int .u64 0, .int .u64 0, .int .u64 0, .int .u64 0, .int .u64 0, .int .u64 0, .int .u64 0, .int .u64 0, .int .u64 0, .int .u64 0, .int .u64 0, .int .u64 0, .int .u64 0, .int .u64 0, .int .u64 0, .int .u64 0, .int .u64 0, .int .u64 0, .int .u64 0, .int .u64 0, .int .u64 0, .int .u64 0, .int .u64 0, .int .u64 0, .int .u64 0, .int .u64 0, .int .u64 0, .int .u64 0, .int .u64 0, .int .u64 0, .int .u64 0] : Array Value) = lk (fun _ _ => false) := by kernel_rfl
theorem lk_one (r : Nat → Nat → Bool) : (lk r).all (·.oneCell') = true := by simp [lk, Value.oneCell']
theorem lk_info (r : Nat → Nat → Bool) : (Tryd.prog.info? 63).map (·.size) = some (lk r).size := by rw [lk_size]; kernel_rfl
theorem lk_congr {r s : Nat → Nat → Bool} (h : ∀ i j, i < 60 → j < 60 → r i j = s i j) : lk r = lk s := by
  apply Array.ext_getElem?
  intro j
  by_cases hj : j < 60
  · rw [lk_get _ hj, lk_get _ hj, bs_congr fun k hk => h j k hj hk]
  · rw [show (lk r)[j]? = none by simp [lk_size]; omega, show (lk s)[j]? = none by simp [lk_size]; omega]

/-- The edges lie in the block b from o on. -/
structure EdsAt (w : World) (b o : Nat) (l : List Ed) : Prop where
  lt : b < w.heap.size
  cf : ∀ j, j < l.length → w.cell? ⟨b, o + j * 2, none⟩ = some (.int .i64 (ed l j).f)
  ct : ∀ j, j < l.length → w.cell? ⟨b, o + j * 2 + 1, none⟩ = some (.int .i64 (ed l j).t)
/-- A slice of edges: none of them, or they lie somewhere. -/
def Eds (w : World) (q : Option Addr) (l : List Ed) : Prop := l.length = 0 ∨ ∃ b o, q = some ⟨b, o, none⟩ ∧ EdsAt w b o l
theorem EdsAt.below {w w' : World} {b o : Nat} {l : List Ed} {B : Nat} (h : EdsAt w b o l) (hb : Below B w w') (hB : b < B) : EdsAt w' b o l :=
  ⟨Nat.lt_of_lt_of_le h.lt hb.size, fun j hj => (hb.cell (p := ⟨b, o + j * 2, none⟩) hB).trans (h.cf j hj), fun j hj => (hb.cell (p := ⟨b, o + j * 2 + 1, none⟩) hB).trans (h.ct j hj)⟩
theorem Eds.below {w w' : World} {q : Option Addr} {l : List Ed} (h : Eds w q l) {B : Nat} (hb : Below B w w') (hB : w.heap.size ≤ B) : Eds w' q l := by
  rcases h with h0 | ⟨b, o, e, hA⟩
  · exact Or.inl h0
  · exact Or.inr ⟨b, o, e, hA.below hb (Nat.lt_of_lt_of_le hA.lt hB)⟩

theorem wrap_succ {i : Nat} (h : i ≤ 100000) : wrap64 ((i : Int) + 1) = ((i + 1 : Nat) : Int) := by unfold wrap64; omega
theorem meas_w {n i : Nat} (hi : i < n) (h : i ≤ 100000) : n - (intOf (.int .i64 (wrap64 ((i : Int) + 1)))).toNat < n - (intOf (.int .i64 (i : Int))).toNat := by
  rw [wrap_succ h]
  simp [intOf]
  omega
theorem meas_1 {n i : Nat} (hi : i < n) : n - (intOf (.int .i64 ((i : Int) + 1))).toNat < n - (intOf (.int .i64 (i : Int))).toNat := by
  simp [intOf]
  omega
theorem int_succ (i : Nat) : Value.int .i64 ((i : Int) + 1) = .int .i64 ((i + 1 : Nat) : Int) := by simp
theorem int_wsucc {i : Nat} (h : i ≤ 100000) : Value.int .i64 (wrap64 ((i : Int) + 1)) = .int .i64 ((i + 1 : Nat) : Int) := by rw [wrap_succ h]

theorem below_row {B : Nat} {w w' : World} (h : Below B w w') {g : Nat} (hg : B ≤ g) {cs : Array Value} : Below B w (w'.setRow g cs) :=
  ⟨h.os, h.tape, h.output, by have := h.size; simpa [World.setRow] using this, fun k hk => (setRow_other w' g k cs (by omega)).trans (h.block k hk)⟩

set_option maxHeartbeats 1000000 in
set_option maxRecDepth 100000 in
theorem steps_any {w : World} {q : Option Addr} {l : List Ed} {cap : Nat} (h : Eds w q l) (hok : ∀ e ∈ l, 0 ≤ e.f ∧ e.f < 60 ∧ 0 ≤ e.t ∧ e.t < 60) (hlen : l.length ≤ 400) :
    Calls Tryd.prog 47 #[.slice q l.length cap] w fun e w' => e = .returned (.agg (lk (eB l))) ∧ Below w.heap.size w w' := by
  have hlen' : Hid (l.length ≤ 400) := hlen
  clear hlen
  go_enter Tryd.func47, Tryd.ntmps47
  go_wp2
  rw [lk_zero]
  have hbb : Hid (Below w.heap.size w ((w.alloc (.cells (lk fun _ _ => false) 63)).alloc (.cells (lk fun _ _ => false) 63))) := ((Below.refl _ _).alloc (Nat.le_refl _) _).alloc (by simp) _
  have hb1 : Hid (((w.alloc (.cells (lk fun _ _ => false) 63)).alloc (.cells (lk fun _ _ => false) 63)).heap[w.heap.size + 1]? = some (.cells (lk fun _ _ => false) 63 (0, 0))) := by
    have := heap_alloc_new (w.alloc (.cells (lk fun _ _ => false) 63)) (.cells (lk fun _ _ => false) 63)
    simp only [World.size_alloc] at this
    exact this
  have hb0 : Hid (((w.alloc (.cells (lk fun _ _ => false) 63)).alloc (.cells (lk fun _ _ => false) 63)).heap[w.heap.size]? = some (.cells (lk fun _ _ => false) 63 (0, 0))) := by
    show _ = _
    rw [Below.heap_alloc _ _ _ (by simp)]; exact heap_alloc_new _ _
  generalize ((w.alloc (.cells (lk fun _ _ => false) 63)).alloc (.cells (lk fun _ _ => false) 63)) = w2 at *
  obtain ⟨b1, hb1e⟩ : ∃ b1, b1 = w.heap.size + 1 := ⟨_, rfl⟩
  rw [← hb1e]
  have hb1H : Hid (b1 = w.heap.size + 1) := hb1e
  rw [← hb1e] at hb1
  clear hb1e
  go_loopw [8] (fun iv wr => ∃ j : Nat, iv = .int .i64 j ∧ j ≤ l.length ∧ wr.heap[b1]? = some (.cells (lk (eB (l.take j))) 63 (0, 0)) ∧ wr.heap[w.heap.size]? = some (.cells (lk fun _ _ => false) 63 (0, 0)) ∧ Below w.heap.size w wr)
    (fun iv _ => l.length - (intOf iv).toNat)
  case atStart => exact ⟨0, rfl, Nat.zero_le _, hb1.out, hb0.out, hbb.out⟩
  case round =>
    clear hb1 hb0 hbb
    obtain ⟨j, rfl, hjl, hk1, hk0, hbl⟩ := hrel
    have hsz1 : b1 < wr.heap.size := (Array.getElem?_eq_some_iff.1 hk1).1
    by_cases hj : j < l.length
    · rcases h with h0 | ⟨b, o, rfl, hA⟩
      · omega
      have hAr := hA.below hbl hA.lt
      have z0 := hAr.cf j hj
      have z1 := hAr.ct j hj
      obtain ⟨F, hF⟩ : ∃ F : Nat, (ed l j).f = F := ⟨((ed l j).f).toNat, by have := hok _ (ed_mem hj); omega⟩
      obtain ⟨T, hT⟩ : ∃ T : Nat, (ed l j).t = T := ⟨((ed l j).t).toNat, by have := hok _ (ed_mem hj); omega⟩
      have hF60 : F < 60 := by have := hok _ (ed_mem hj); omega
      have hT60 : T < 60 := by have := hok _ (ed_mem hj); omega
      rw [hF] at z0
      rw [hT] at z1
      have hji : (j : Int) < (l.length : Int) := by omega
      have hj2 : Hid (j ≤ 100000) := by have := hlen'.out; show _ ≤ _; omega
      have hstep : Hid (lk (upd (eB (l.take j)) F (fun k => eB (l.take j) F k || decide (k = T))) = lk (eB (l.take (j + 1)))) := lk_congr fun a k _ _ => by
        rw [Gm.take_snoc hj, eB_snoc, hF, hT]
        unfold upd
        by_cases e : a = F
        · subst e
          simp
          congr 1
          rw [decide_eq_decide]
          omega
        · have : ¬ ((F : Int) = a) := by omega
          simp [e, this]
      have hor := or_bs (eB (l.take j) F) (fun k => decide (k = T))
      have hFi : (F : Int) < 60 := by omega
      have c1 : wr.cell? ⟨b1, F, none⟩ = some (.int .u64 ((bs (eB (l.take j) F) 60 : Nat) : Int)) := (cell_of_row wr b1 F _ _ _ hk1).trans (lk_get _ hF60)
      have f1 : wr.frozen? ⟨b1, F, none⟩ = false := by simp [World.frozen?, hk1]
      have c1a := cell_alloc c1 (.cells #[.int .i64 (F : Int), .int .i64 (T : Int)] 41)
      have f1a : (wr.alloc (.cells #[.int .i64 (F : Int), .int .i64 (T : Int)] 41)).frozen? ⟨b1, F, none⟩ = false := (World.frozen?_of_block (w := wr) (a := ⟨b1, F, none⟩) (Below.heap_alloc wr _ b1 hsz1)).trans f1
      have hk1a := Below.heap_alloc wr (.cells #[.int .i64 (F : Int), .int .i64 (T : Int)] 41) b1 hsz1
      have hsz0 : w.heap.size < wr.heap.size := (Array.getElem?_eq_some_iff.1 hk0).1
      have hk0a := Below.heap_alloc wr (.cells #[.int .i64 (F : Int), .int .i64 (T : Int)] 41) w.heap.size hsz0
      have hbz : Hid (Below w.heap.size w (wr.alloc (.cells #[.int .i64 (F : Int), .int .i64 (T : Int)] 41))) := hbl.alloc hbl.size _
      have hn := heap_alloc_new wr (.cells #[.int .i64 (F : Int), .int .i64 (T : Int)] 41)
      clear hAr hA hok hF hT c1 f1
      go_wp2
      clear z0 z1
      have hK1 : Hid ((wr.alloc (.cells #[.int .i64 (F : Int), .int .i64 (T : Int)] 41)).heap[b1]? = some (.cells (lk (eB (l.take j))) 63 (0, 0))) := hk1a.trans hk1
      have hK0 : Hid ((wr.alloc (.cells #[.int .i64 (F : Int), .int .i64 (T : Int)] 41)).heap[w.heap.size]? = some (.cells (lk fun _ _ => false) 63 (0, 0))) := hk0a.trans hk0
      clear hk1a hk0a hk1 hk0 hbl
      generalize wr.alloc (.cells #[.int .i64 (F : Int), .int .i64 (T : Int)] 41) = wz at *
      generalize wr.heap.size = hc at *
      have k0 : wz.cell? ⟨hc, 0, none⟩ = some (.int .i64 (F : Int)) := (cell_of_row _ _ 0 _ _ _ hn).trans rfl
      have k1 : wz.cell? ⟨hc, 1, none⟩ = some (.int .i64 (T : Int)) := (cell_of_row _ _ 1 _ _ _ hn).trans rfl
      clear hn
      refine wp_region_still_tail 9 (by kernel_rfl) (by kernel_rfl) ?_
      simp only [List.take_succ_cons, List.take_zero, List.drop_succ_cons, List.drop_zero]
      repeat (first | still_step | still_call (oneS_any T _ hT60))
      refine wpStill_nil ?_
      change wpList _ _ _ _ _ (World.drew wz)
      have c1d : wz.drew.cell? ⟨b1, F, none⟩ = some (.int .u64 ((bs (eB (l.take j) F) 60 : Nat) : Int)) := c1a
      have f1d : wz.drew.frozen? ⟨b1, F, none⟩ = false := f1a
      clear k0 k1 c1a f1a
      go_wp2
      refine ⟨⟨j + 1, ?_, hj, ?_, ?_, ?_⟩, ?_⟩
      · first | exact int_succ j | exact int_wsucc hj2.out
      · rw [← hstep.out, ← lk_set]
        have := heap_setCell_same wz b1 F _ _ (.int .u64 ((bs (fun k => eB (l.take j) F k || decide (k = T)) 60 : Nat) : Int)) hK1.out
        exact this
      · exact (Below.heap_setCell wz _ _ _ (by show w.heap.size ≠ b1; have := hb1H.out; omega)).trans hK0.out
      · exact (hbz.out.setCell (by show w.heap.size ≤ b1; have := hb1H.out; omega) _).drew
      · first | exact meas_1 hj | exact meas_w hj hj2.out
    · have hji : ¬ (j : Int) < (l.length : Int) := by omega
      have e : j = l.length := by omega
      subst e
      rw [List.take_length] at hk1
      clear h hok
      go_wp2_with (first
        | (refine wpList_load_row rfl 63 _ rfl _ rfl _ _ _ _ hk1 Tryd.underlying63 rfl (lk_info _) ?_)
        | (refine wpList_store_row rfl 63 _ _ rfl _ (lk (eB l)) rfl rfl _ _ hk0 (lk_info _) (by rw [lk_size, lk_size]) (lk_one _) ?_)
        | go_in)
      refine bodyPost_ret (results_cell_row Tryd.results47 _ _ w.heap.size _ (lk (eB l)) _ _ rfl (setRow_heap wr w.heap.size _ _ _ _ hk0) Tryd.underlying63 rfl (lk_info _)) rfl ⟨rfl, ?_⟩
      exact below_row hbl (Nat.le_refl _)

def cu (E : Nat → Nat → Bool) (m i : Nat) : Nat → Nat → Bool := fun a => if a < i then vB E (m + 1) a else vB E m a
theorem cu_zero (E : Nat → Nat → Bool) (m : Nat) : cu E m 0 = vB E m := by funext a; simp [cu]
theorem cu_end (E : Nat → Nat → Bool) (m : Nat) : lk (cu E m 60) = lk (vB E (m + 1)) := lk_congr fun a k ha _ => by simp [cu, ha]
theorem cu_at (E : Nat → Nat → Bool) (m i : Nat) : cu E m i i = vB E m i := by simp [cu]
theorem vB_self (E : Nat → Nat → Bool) (m j : Nat) : vB E (m + 1) m j = vB E m m j := by
  simp only [vB]
  cases vB E m m j <;> simp
theorem cu_by (E : Nat → Nat → Bool) (m i : Nat) : cu E m i m = vB E m m := by
  unfold cu
  split
  · funext j; exact vB_self E m j
  · rfl
theorem cu_no {E : Nat → Nat → Bool} {m i : Nat} (h : vB E m i m = false) : lk (cu E m i) = lk (cu E m (i + 1)) := lk_congr fun a k _ _ => by
  unfold cu
  by_cases e : a = i
  · subst e
    simp [vB, h]
  · by_cases e2 : a < i
    · rw [if_pos e2, if_pos (by omega)]
    · rw [if_neg e2, if_neg (by omega)]
theorem cu_yes {E : Nat → Nat → Bool} {m i : Nat} (h : vB E m i m = true) : lk (upd (cu E m i) i (fun j => vB E m i j || vB E m m j)) = lk (cu E m (i + 1)) := lk_congr fun a k _ _ => by
  unfold upd cu
  by_cases e : a = i
  · subst e
    simp [vB, h]
  · rw [if_neg e]
    by_cases e2 : a < i
    · rw [if_pos e2, if_pos (by omega)]
    · rw [if_neg e2, if_neg (by omega)]

set_option maxHeartbeats 2000000 in
set_option maxRecDepth 100000 in
theorem ways_any {w : World} {q : Option Addr} {l : List Ed} {cap : Nat} (h : Eds w q l) (hok : ∀ e ∈ l, 0 ≤ e.f ∧ e.f < 60 ∧ 0 ≤ e.t ∧ e.t < 60) (hlen : l.length ≤ 400) :
    Calls Tryd.prog 41 #[.slice q l.length cap] w fun e w' => e = .returned (.agg (lk (wB l))) ∧ Below w.heap.size w w' := by
  have hst : Hid (∀ w1, Below w.heap.size w w1 → Calls Tryd.prog 47 #[.slice q l.length cap] w1 fun e w' => e = .returned (.agg (lk (eB l))) ∧ Below w1.heap.size w1 w') := fun w1 hb => steps_any (h.below hb (Nat.le_refl _)) hok hlen
  clear h hok hlen
  go_enter Tryd.func41, Tryd.ntmps41
  go_wp2_with fail
  rw [lk_zero]
  have hb1 : Below w.heap.size w (w.alloc (.cells (lk fun _ _ => false) 63)) := (Below.refl _ _).alloc (Nat.le_refl _) _
  have hn1 := heap_alloc_new w (.cells (lk fun _ _ => false) 63)
  refine (hst.out _ hb1).mono ?_
  rintro e w2 ⟨rfl, hb2⟩
  have hbW : Below w.heap.size w w2 := hb1.trans (hb2.mono hb1.size)
  have hk0 : w2.heap[w.heap.size]? = some (.cells (lk fun _ _ => false) 63 (0, 0)) := (hb2.block _ (by simp)).trans hn1
  clear hst hb1 hn1 hb2
  go_wp2_with (first
    | (refine wpList_store_row rfl 63 _ _ rfl _ (lk (eB l)) rfl rfl _ _ (heap_alloc_new _ _) (lk_info _) (by rw [lk_size]; rfl) (lk_one _) ?_)
    | go_in)
  rw [lk_zero]
  have hs2 : w.heap.size < w2.heap.size := (Array.getElem?_eq_some_iff.1 hk0).1
  have hB3 : Hid (Below w.heap.size w ((w2.alloc (.cells (lk fun _ _ => false) 63)).setRow w2.heap.size (lk (eB l)))) := below_row (hbW.alloc hbW.size _) (by omega)
  have hq1 : Hid (((w2.alloc (.cells (lk fun _ _ => false) 63)).setRow w2.heap.size (lk (eB l))).heap[w2.heap.size]? = some (.cells (lk (eB l)) 63 (0, 0))) := setRow_heap _ _ _ _ _ _ (heap_alloc_new w2 _)
  have hq0 : Hid (((w2.alloc (.cells (lk fun _ _ => false) 63)).setRow w2.heap.size (lk (eB l))).heap[w.heap.size]? = some (.cells (lk fun _ _ => false) 63 (0, 0))) := by
    show _ = _
    rw [setRow_other _ _ _ _ (by omega), Below.heap_alloc _ _ _ hs2, hk0]
  clear hk0 hbW
  generalize ((w2.alloc (.cells (lk fun _ _ => false) 63)).setRow w2.heap.size (lk (eB l))) = w3 at *
  generalize w2.heap.size = b1 at *
  have hsH : Hid (w.heap.size < b1) := hs2
  clear hs2
  go_loopw [8] (fun iv wr => ∃ m : Nat, iv = .int .i64 m ∧ m ≤ 60 ∧ wr.heap[b1]? = some (.cells (lk (vB (eB l) m)) 63 (0, 0)) ∧ wr.heap[w.heap.size]? = some (.cells (lk fun _ _ => false) 63 (0, 0)) ∧ Below w.heap.size w wr)
    (fun iv _ => 60 - (intOf iv).toNat)
  case atStart => exact ⟨0, rfl, by omega, hq1.out, hq0.out, hB3.out⟩
  case round =>
    clear hq1 hq0 hB3
    obtain ⟨m, rfl, hm, hk1, hk0, hbl⟩ := hrel
    by_cases hm60 : m < 60
    · have hmi : (m : Int) < 60 := by omega
      have hm2 : Hid (m < 60) := hm60
      rename World => wo
      go_wp2
      go_loopw [11] (fun iv wr => ∃ i : Nat, iv = .int .i64 i ∧ i ≤ 60 ∧ wr.heap[b1]? = some (.cells (lk (cu (eB l) m i)) 63 (0, 0)) ∧ wr.heap[w.heap.size]? = some (.cells (lk fun _ _ => false) 63 (0, 0)) ∧ Below w.heap.size w wr)
        (fun iv _ => 60 - (intOf iv).toNat)
      case atStart => exact ⟨0, rfl, by omega, by rw [cu_zero]; exact hk1, hk0, hbl⟩
      case round =>
        clear hk1 hk0 hbl
        obtain ⟨i, rfl, hi, hk1, hk0, hbl⟩ := hrel
        by_cases hi60 : i < 60
        · have hii : (i : Int) < 60 := by omega
          have c1 : wr.cell? ⟨b1, i, none⟩ = some (.int .u64 ((bs (vB (eB l) m i) 60 : Nat) : Int)) := by
            rw [cell_of_row wr b1 i _ _ _ hk1, lk_get _ hi60, cu_at]
          have c2 : wr.cell? ⟨b1, m, none⟩ = some (.int .u64 ((bs (vB (eB l) m m) 60 : Nat) : Int)) := by
            rw [cell_of_row wr b1 m _ _ _ hk1, lk_get _ hm60, cu_by]
          have f1 : wr.frozen? ⟨b1, i, none⟩ = false := by simp [World.frozen?, hk1]
          have hhas := has_any (vB (eB l) m i) m wr hm60
          have hor := or_bs (vB (eB l) m i) (vB (eB l) m m)
          cases hv : vB (eB l) m i m
          · have hno : Hid (lk (cu (eB l) m i) = lk (cu (eB l) m (i + 1))) := cu_no hv
            rw [hv] at hhas
            clear hv
            generalize bs (vB (eB l) m i) 60 = x at *
            generalize bs (vB (eB l) m m) 60 = y at *
            go_wp2_with (first
              | (go_at_call 62; refine hhas.mono ?_; rintro e w' ⟨rfl, hw'⟩; have hw'' := hw'.symm; subst hw''; clear hhas)
              | go_in)
            exact ⟨⟨i + 1, int_succ i, hi60, by rw [← hno.out]; exact hk1, hk0, hbl⟩, meas_1 hi60⟩
          · have hyes : Hid (lk (upd (cu (eB l) m i) i (fun j => vB (eB l) m i j || vB (eB l) m m j)) = lk (cu (eB l) m (i + 1))) := cu_yes hv
            have hlk : Hid ((lk (cu (eB l) m i)).setIfInBounds i (.int .u64 ((bs (fun j => vB (eB l) m i j || vB (eB l) m m j) 60 : Nat) : Int)) = lk (upd (cu (eB l) m i) i (fun j => vB (eB l) m i j || vB (eB l) m m j))) := lk_set _ _
            rw [hv] at hhas
            clear hv
            generalize bs (vB (eB l) m i) 60 = x at *
            generalize bs (vB (eB l) m m) 60 = y at *
            generalize hz : bs (fun j => vB (eB l) m i j || vB (eB l) m m j) 60 = z at *
            clear hz
            go_wp2_with (first
              | (go_at_call 62; refine hhas.mono ?_; rintro e w' ⟨rfl, hw'⟩; have hw'' := hw'.symm; subst hw''; clear hhas)
              | go_in)
            refine wp_region_still_tail 8 (by kernel_rfl) (by kernel_rfl) ?_
            simp only [List.take_succ_cons, List.take_zero, List.drop_succ_cons, List.drop_zero]
            repeat still_step
            refine wpStill_nil ?_
            change wpList _ _ _ _ _ (World.drew wr)
            have c1d : wr.drew.cell? ⟨b1, i, none⟩ = some (.int .u64 (x : Int)) := c1
            have f1d : wr.drew.frozen? ⟨b1, i, none⟩ = false := f1
            clear c1 c2 f1
            go_wp2
            refine ⟨⟨i + 1, int_succ i, hi60, ?_, ?_, ?_⟩, meas_1 hi60⟩
            · rw [← hyes.out, ← hlk.out]
              exact heap_setCell_same wr b1 i _ _ _ hk1
            · exact (Below.heap_setCell wr _ _ _ (by show w.heap.size ≠ b1; have := hsH.out; omega)).trans hk0
            · exact (hbl.setCell (by show w.heap.size ≤ b1; have := hsH.out; omega) _).drew
        · have hii : ¬ (i : Int) < 60 := by omega
          have e : i = 60 := by omega
          subst e
          go_wp2
          refine ⟨⟨m + 1, int_succ m, hm2.out, by rw [← cu_end]; exact hk1, hk0, hbl⟩, meas_1 hm2.out⟩
    · have hmi : ¬ (m : Int) < 60 := by omega
      have e : m = 60 := by omega
      subst e
      have hk1' : wr.heap[b1]? = some (.cells (lk (wB l)) 63 (0, 0)) := hk1
      clear hk1
      go_wp2_with (first
        | (refine wpList_load_row rfl 63 _ rfl _ rfl _ _ _ _ hk1' Tryd.underlying63 rfl (lk_info _) ?_)
        | (refine wpList_store_row rfl 63 _ _ rfl _ (lk (wB l)) rfl rfl _ _ hk0 (lk_info _) (by rw [lk_size, lk_size]) (lk_one _) ?_)
        | go_in)
      refine bodyPost_ret (results_cell_row Tryd.results41 _ _ w.heap.size _ (lk (wB l)) _ _ rfl (setRow_heap wr w.heap.size _ _ _ _ hk0) Tryd.underlying63 rfl (lk_info _)) rfl ⟨rfl, ?_⟩
      exact below_row hbl (Nat.le_refl _)
end Go.Proofs.YtncjnmlgkhngaaaDoor
