/- Thin, walked. -/
import Derived.Test.YtncjnmlgkhngaaaDoorGal
namespace Go.Proofs.YtncjnmlgkhngaaaDoor
open Go.RowKit Gm
set_option linter.unusedSectionVars false

/-- Row i, with the first k of those behind i looked at. -/
def tp (l : List Ed) (i k b : Nat) : Bool := eB l i b && !((bl (wB l i) 60).take k).any fun t => wB l t b
/-- The thin graph: those edges that no third thing stands between. -/
def tn (l : List Ed) (i b : Nat) : Bool := eB l i b && !(bl (wB l i) 60).any fun t => wB l t b
def tS (l : List Ed) (i k a b : Nat) : Bool := if a < i then tn l a b else if a = i then tp l i k b else eB l a b
theorem tS_zero (l : List Ed) : lk (tS l 0 0) = lk (eB l) := lk_congr fun a b _ _ => by
  unfold tS
  rw [if_neg (by omega)]
  split
  · rename_i h; subst h; simp [tp]
  · rfl
theorem tS_end (l : List Ed) {i k : Nat} (hk : (bl (wB l i) 60).length = k) : lk (tS l i k) = lk (tS l (i + 1) 0) := lk_congr fun a b _ _ => by
  unfold tS
  by_cases h1 : a < i
  · rw [if_pos h1, if_pos (by omega)]
  · rw [if_neg h1]
    by_cases h2 : a = i
    · subst h2
      rw [if_pos rfl, if_pos (by omega)]
      unfold tp tn
      rw [List.take_of_length_le (by omega)]
    · rw [if_neg h2, if_neg (by omega)]
      split
      · rename_i h; subst h; simp [tp]
      · rfl
theorem tS_last (l : List Ed) : lk (tS l 60 0) = lk (tn l) := lk_congr fun a b h _ => by
  unfold tS
  rw [if_pos h]
theorem tS_row (l : List Ed) (i k : Nat) : tS l i k i = tp l i k := by
  funext b
  unfold tS
  rw [if_neg (by omega), if_pos rfl]
theorem tS_step (l : List Ed) {i k : Nat} (hk : k < (bl (wB l i) 60).length) : lk (upd (tS l i k) i (fun b => tp l i k b && !wB l (bn (bl (wB l i) 60) k) b)) = lk (tS l i (k + 1)) := lk_congr fun a b _ _ => by
  unfold upd
  by_cases h : a = i
  · subst h
    rw [if_pos rfl, tS_row]
    unfold tp
    rw [← List.take_append_getElem hk, List.any_append, bn_get hk]
    simp [Bool.and_assoc]
  · rw [if_neg h]
    unfold tS
    rw [if_neg h, if_neg h]
theorem old2 (w : World) (o o' : Obj) : ((w.alloc o).alloc o').heap[w.heap.size]? = some o := by
  rw [Below.heap_alloc _ _ _ (by simp)]; exact heap_alloc_new w o
theorem new2 (w : World) (o o' : Obj) (cs : Array Value) : (((w.alloc o).alloc o').setRow w.heap.size cs).heap[w.heap.size + 1]? = some o' := by
  rw [setRow_other _ _ _ _ (by omega)]
  have := heap_alloc_new (w.alloc o) o'
  rwa [World.size_alloc] at this
theorem new3 (w : World) (o o' : Obj) (cs : Array Value) : (((w.alloc o).alloc o').setRow w.heap.size cs).heap[(w.alloc o).heap.size]? = some o' := by
  rw [World.size_alloc]; exact new2 w o o' cs
theorem two_arr {B : Nat} {w w3 w5 : World} {Z Z' a b : Array Value} {t : TypeId} (h : Below B w w3) (hs : B ≤ w3.heap.size)
    (hb5 : Below ((((w3.alloc (.cells Z t)).alloc (.cells Z' t)).setRow w3.heap.size a).setRow (w3.heap.size + 1) b).heap.size ((((w3.alloc (.cells Z t)).alloc (.cells Z' t)).setRow w3.heap.size a).setRow (w3.heap.size + 1) b) w5) :
    Below B w w5 ∧ w5.heap[w3.heap.size]? = some (.cells a t (0, 0)) ∧ w5.heap[w3.heap.size + 1]? = some (.cells b t (0, 0)) := by
  have hsz : ((((w3.alloc (.cells Z t)).alloc (.cells Z' t)).setRow w3.heap.size a).setRow (w3.heap.size + 1) b).heap.size = w3.heap.size + 2 := by simp [World.setRow]
  refine ⟨?_, ?_, ?_⟩
  · have h1 : Below B w ((w3.alloc (.cells Z t)).alloc (.cells Z' t)) := (h.alloc hs _).alloc (by simp; omega) _
    have h2 := below_row (below_row h1 hs (cs := a)) (g := w3.heap.size + 1) (by omega) (cs := b)
    exact h2.trans (hb5.mono (by rw [hsz]; omega))
  · rw [hb5.block _ (by rw [hsz]; omega), setRow_other _ _ _ _ (by omega)]
    exact setRow_heap _ _ _ _ _ _ (old2 w3 _ _)
  · rw [hb5.block _ (by rw [hsz]; omega)]
    exact setRow_heap _ _ _ _ _ _ (new2 w3 _ _ _)

theorem thin_bad {n : Int} {w : World} {q : Option Addr} {l : List Ed} {cap : Nat} (h : Eds w q l) (hne : chk n l ≠ 0) :
    Calls Tryd.prog 20 #[.int .i64 n, .slice q l.length cap] w fun e w' => e = .returned (.tuple #[.slice none 0 0, .int .i64 (chk n l)]) ∧ Below w.heap.size w w' := by
  have hc := check_any (cap := cap) n h
  generalize chk n l = ev at *
  clear h
  go_enter Tryd.func20, Tryd.ntmps20
  go_wp2_with (first | (go_at_call 13; refine hc.mono ?_; rintro e w1 ⟨rfl, hb1⟩; clear hc) | go_in)
  go_ret2
  exact ⟨rfl, hb1⟩

set_option maxHeartbeats 1000000 in
set_option maxRecDepth 100000 in
theorem thin_cyc {n : Int} {w : World} {q : Option Addr} {l : List Ed} {cap : Nat} (h : Eds w q l) (h0 : chk n l = 0) (hk : bs (fun i => wB l i i) 60 ≠ 0) :
    Calls Tryd.prog 20 #[.int .i64 n, .slice q l.length cap] w fun e w' => e = .returned (.tuple #[.slice none 0 0, .int .i64 8]) ∧ Below w.heap.size w w' := by
  have hc := check_any (cap := cap) n h
  rw [h0] at hc
  have hst : Hid (∀ w1, Below w.heap.size w w1 → _) := fun w1 hb => steps_any (cap := cap) (h.below hb (Nat.le_refl _)) (chk_60 h0) (chk_ok h0).2.2.1
  have hw : Hid (∀ w1, Below w.heap.size w w1 → _) := fun w1 hb => ways_any (cap := cap) (h.below hb (Nat.le_refl _)) (chk_60 h0) (chk_ok h0).2.2.1
  have hkn : Hid (∀ w1, _) := fun w1 => knotS_any (wB l) w1
  have iA : (Tryd.prog.info? 63).map (·.size) = some (lk (eB l)).size := lk_info _
  have iB : (Tryd.prog.info? 63).map (·.size) = some (lk (wB l)).size := lk_info _
  have sA := lk_size (eB l)
  have sB := lk_size (wB l)
  have oA := lk_one (eB l)
  have oB := lk_one (wB l)
  have hnz : (((bs (fun i => wB l i i) 60 : Nat) : Int) != 0) = true := by simp; omega
  generalize ((bs (fun i => wB l i i) 60 : Nat) : Int) = x at *
  generalize lk (eB l) = A at *
  generalize lk (wB l) = B at *
  clear h h0 hk
  go_enter Tryd.func20, Tryd.ntmps20
  go_wp2_with (first
    | (refine wpList_alloc_lk rfl rfl ?_)
    | (go_at_call 13; refine hc.mono ?_; rintro e w1 ⟨rfl, hb1⟩; clear hc)
    | (go_at_call 47; refine (hst.out w1 hb1).mono ?_; rintro e w2 ⟨rfl, hb2⟩; have hB2 : Below w.heap.size w w2 := hb1.trans (hb2.mono hb1.size); clear hst)
    | (go_at_call 41; refine (hw.out w2 hB2).mono ?_; rintro e w3 ⟨rfl, hb3⟩; have hB3 : Below w.heap.size w w3 := hB2.trans (hb3.mono hB2.size); clear hw; have h3 := two_arr (Z := lk fun _ _ => false) (Z' := lk fun _ _ => false) (a := A) (b := B) (t := 63) hB3 hB3.size (Below.refl _ _); have h3H : Hid (_ ∧ _ ∧ _) := h3; clear h3)
    | (refine wpList_store_row rfl 63 _ _ rfl _ A rfl rfl _ _ (old2 w3 _ _) iA (by rw [sA, lk_size]) oA ?_)
    | (refine wpList_store_row rfl 63 _ _ rfl _ B rfl rfl _ (lk fun _ _ => false) (new2 w3 _ _ _) iB (by rw [sB, lk_size]) oB ?_; generalize ((((w3.alloc (.cells (lk fun _ _ => false) 63)).alloc (.cells (lk fun _ _ => false) 63)).setRow w3.heap.size A).setRow (w3.heap.size + 1) B) = W4 at *; obtain ⟨hB4, hk7, hk8⟩ := h3H.out; clear h3H)
    | (refine wpList_store_row rfl 63 _ _ rfl _ B rfl rfl _ (lk fun _ _ => false) (new3 w3 _ _ _) iB (by rw [sB, lk_size]) oB ?_; simp only [World.size_alloc]; generalize ((((w3.alloc (.cells (lk fun _ _ => false) 63)).alloc (.cells (lk fun _ _ => false) 63)).setRow w3.heap.size A).setRow (w3.heap.size + 1) B) = W4 at *; obtain ⟨hB4, hk7, hk8⟩ := h3H.out; clear h3H)
    | (refine wpList_load_row rfl 63 _ rfl _ rfl _ _ _ _ hk8 Tryd.underlying63 rfl iB ?_)
    | (go_at_call 42; refine (hkn.out _).mono ?_; rintro e w5 ⟨rfl, hb5⟩; have hB5 : Below w.heap.size w w5 := hB4.trans (hb5.mono hB4.size); have hk7 := (hb5.block _ (Array.getElem?_eq_some_iff.1 hk7).1).trans hk7; have hk8 := (hb5.block _ (Array.getElem?_eq_some_iff.1 hk8).1).trans hk8; clear hkn hb5)
    | go_in)
  go_ret2
  exact ⟨rfl, hB5⟩

set_option maxHeartbeats 2000000 in
set_option maxRecDepth 100000 in
theorem thin_ok {n : Int} {w : World} {q : Option Addr} {l : List Ed} {cap : Nat} (h : Eds w q l) (hZ : TabZ w) (h0 : chk n l = 0) (hk : bs (fun i => wB l i i) 60 = 0) :
    Calls Tryd.prog 20 #[.int .i64 n, .slice q l.length cap] w fun e w' => ∃ (p : Option Addr) (c : Nat), e = .returned (.tuple #[.slice p (nE (tn l) 60) c, .int .i64 0]) ∧ w'.ownsRow w.heap.size 41 2 (.slice p (nE (tn l) 60) c) (nE (tn l) 60) (flatE (eL (tn l) 60)) ∧ Below w.heap.size w w' := by
  have hc := check_any (cap := cap) n h
  rw [h0] at hc
  have hst : Hid (∀ w1, Below w.heap.size w w1 → _) := fun w1 hb => steps_any (cap := cap) (h.below hb (Nat.le_refl _)) (chk_60 h0) (chk_ok h0).2.2.1
  have hw : Hid (∀ w1, Below w.heap.size w w1 → _) := fun w1 hb => ways_any (cap := cap) (h.below hb (Nat.le_refl _)) (chk_60 h0) (chk_ok h0).2.2.1
  have hZb : Hid (∀ w1, Below w.heap.size w w1 → TabZ w1) := fun w1 hb => hZ.below hb (Nat.le_refl _)
  have hkn : Hid (∀ w1, Calls Tryd.prog 42 #[.agg (lk (wB l))] w1 fun e w' => e = .returned (.int .u64 0) ∧ Below w1.heap.size w1 w') := fun w1 => by
    have := knotS_any (wB l) w1
    rwa [hk] at this
  have hed : Hid (∀ w1, Below w.heap.size w w1 → _) := fun w1 hb => edges_any (tn l) w1 (hZb.out w1 hb)
  have iA : (Tryd.prog.info? 63).map (·.size) = some (lk (eB l)).size := lk_info _
  have iB : (Tryd.prog.info? 63).map (·.size) = some (lk (wB l)).size := lk_info _
  have sA := lk_size (eB l)
  have sB := lk_size (wB l)
  have oA := lk_one (eB l)
  have oB := lk_one (wB l)
  have hAe : Hid (lk (eB l) = lk (tS l 0 0)) := (tS_zero l).symm
  generalize lk (eB l) = A at *
  obtain ⟨B, hBe⟩ : ∃ B, B = lk (wB l) := ⟨_, rfl⟩
  rw [← hBe] at hw hkn iB sB oB
  have hBH : Hid (B = lk (wB l)) := hBe
  clear h h0 hk hZ hBe
  go_enter Tryd.func20, Tryd.ntmps20
  go_wp2_with (first
    | (refine wpList_alloc_lk rfl rfl ?_)
    | (go_at_call 13; refine hc.mono ?_; rintro e w1 ⟨rfl, hb1⟩; clear hc)
    | (go_at_call 47; refine (hst.out w1 hb1).mono ?_; rintro e w2 ⟨rfl, hb2⟩; have hB2 : Below w.heap.size w w2 := hb1.trans (hb2.mono hb1.size); clear hst)
    | (go_at_call 41; refine (hw.out w2 hB2).mono ?_; rintro e w3 ⟨rfl, hb3⟩; have hB3 : Below w.heap.size w w3 := hB2.trans (hb3.mono hB2.size); clear hw; have h3 := two_arr (Z := lk fun _ _ => false) (Z' := lk fun _ _ => false) (a := A) (b := B) (t := 63) hB3 hB3.size (Below.refl _ _); have h3H : Hid (_ ∧ _ ∧ _) := h3; clear h3)
    | (refine wpList_store_row rfl 63 _ _ rfl _ A rfl rfl _ _ (old2 w3 _ _) iA (by rw [sA, lk_size]) oA ?_)
    | (refine wpList_store_row rfl 63 _ _ rfl _ B rfl rfl _ (lk fun _ _ => false) (new2 w3 _ _ _) iB (by rw [sB, lk_size]) oB ?_; generalize ((((w3.alloc (.cells (lk fun _ _ => false) 63)).alloc (.cells (lk fun _ _ => false) 63)).setRow w3.heap.size A).setRow (w3.heap.size + 1) B) = W4 at *; obtain ⟨hB4, hk7, hk8⟩ := h3H.out; clear h3H)
    | (refine wpList_store_row rfl 63 _ _ rfl _ B rfl rfl _ (lk fun _ _ => false) (new3 w3 _ _ _) iB (by rw [sB, lk_size]) oB ?_; simp only [World.size_alloc]; generalize ((((w3.alloc (.cells (lk fun _ _ => false) 63)).alloc (.cells (lk fun _ _ => false) 63)).setRow w3.heap.size A).setRow (w3.heap.size + 1) B) = W4 at *; obtain ⟨hB4, hk7, hk8⟩ := h3H.out; clear h3H)
    | (refine wpList_load_row rfl 63 _ rfl _ rfl _ _ _ _ hk8 Tryd.underlying63 rfl iB ?_)
    | (go_at_call 42; refine (hkn.out _).mono ?_; rintro e w5 ⟨rfl, hb5⟩; have hB5 : Below w.heap.size w w5 := hB4.trans (hb5.mono hB4.size); have hk7 := (hb5.block _ (Array.getElem?_eq_some_iff.1 hk7).1).trans hk7; have hk8 := (hb5.block _ (Array.getElem?_eq_some_iff.1 hk8).1).trans hk8; clear hkn hb5)
    | go_in)
  rw [hAe.out] at hk7
  rw [hBH.out] at hk8
  have hB5H : Hid (Below w.heap.size w w5) := hB5
  have hk7H : Hid (w5.heap[w3.heap.size]? = some (.cells (lk (tS l 0 0)) 63 (0, 0))) := hk7
  have hk8H : Hid (w5.heap[w3.heap.size + 1]? = some (.cells (lk (wB l)) 63 (0, 0))) := hk8
  have hs3 : Hid (w.heap.size ≤ w3.heap.size) := hB3.size
  clear hk7 hk8 hB5 hB3 hb3 hB2 hb2 hb1 iA iB sA sB oA oB hAe hBH
  generalize hsg : w3.heap.size = sg at *
  clear hsg
  go_loopw [25] (fun iv wr => ∃ i : Nat, iv = .int .i64 i ∧ i ≤ 60 ∧ wr.heap[sg]? = some (.cells (lk (tS l i 0)) 63 (0, 0)) ∧ wr.heap[sg + 1]? = some (.cells (lk (wB l)) 63 (0, 0)) ∧ Below w.heap.size w wr)
    (fun iv _ => 60 - (intOf iv).toNat)
  case atStart => exact ⟨0, rfl, by omega, hk7H.out, hk8H.out, hB5H.out⟩
  case round =>
    clear hk7H hk8H hB5H
    obtain ⟨i, rfl, hi, hk7, hk8, hbl⟩ := hrel
    by_cases hi60 : i < 60
    · have hii : (i : Int) < 60 := by omega
      have c8 : wr.cell? ⟨sg + 1, i, none⟩ = some (.int .u64 ((bs (wB l i) 60 : Nat) : Int)) := (cell_of_row wr _ i _ _ _ hk8).trans (lk_get _ hi60)
      have hls := list_any (wB l i) wr (hZb.out wr hbl)
      have hsw : Hid (sg + 1 < wr.heap.size) := (Array.getElem?_eq_some_iff.1 hk8).1
      have hb1 : Hid ((bl (wB l i) 60).length ≤ 60) := bl_len _ _
      obtain ⟨m, hm⟩ : ∃ m, (bl (wB l i) 60).length = m := ⟨_, rfl⟩
      have hmH : Hid ((bl (wB l i) 60).length = m) := hm
      rw [hm] at hls hb1
      clear hm
      generalize ((bs (wB l i) 60 : Nat) : Int) = x at *
      go_wp2_with (first
        | (go_at_call 43; refine hls.mono ?_; rintro e w6 ⟨p6, c6, rfl, hr6, hb6⟩; clear hls)
        | go_in)
      have hk76 : Hid (w6.heap[sg]? = some (.cells (lk (tS l i 0)) 63 (0, 0))) := (hb6.block _ (by have := hsw.out; omega)).trans hk7
      have hk86 : Hid (w6.heap[sg + 1]? = some (.cells (lk (wB l)) 63 (0, 0))) := (hb6.block _ hsw.out).trans hk8
      have hB6 : Hid (Below w.heap.size w w6) := hbl.trans (hb6.mono hbl.size)
      have hr6H : Hid (w6.ownsRow wr.heap.size 3 1 (.slice p6 m c6) m (ints (bl (wB l i) 60))) := hr6
      clear hk7 hk8 hbl hb6 hr6 c8
      go_loopw [33] (fun kv wk => ∃ k : Nat, kv = .int .i64 k ∧ k ≤ m ∧ wk.heap[sg]? = some (.cells (lk (tS l i k)) 63 (0, 0)) ∧ wk.heap[sg + 1]? = some (.cells (lk (wB l)) 63 (0, 0)) ∧ wk.ownsRow wr.heap.size 3 1 (.slice p6 m c6) m (ints (bl (wB l i) 60)) ∧ Below w.heap.size w wk)
        (fun kv _ => m - (intOf kv).toNat)
      case atStart => exact ⟨0, rfl, Nat.zero_le _, hk76.out, hk86.out, hr6H.out, hB6.out⟩
      case round =>
        clear hk76 hk86 hr6H hB6
        rename World => wk
        obtain ⟨k, rfl, hk, hk7, hk8, hr, hbl⟩ := hrel
        by_cases hkm : k < m
        · obtain ⟨g, rfl, cc, hBg⟩ := row_at hr hmH.out hkm
          have hki : (k : Int) < (m : Int) := by omega
          have hkb : k < (bl (wB l i) 60).length := by rw [hmH.out]; exact hkm
          have hx60 : bn (bl (wB l i) 60) k < 60 := by rw [bn_get hkb]; exact (mem_bl.1 (List.getElem_mem hkb)).1
          have c7 : wk.cell? ⟨sg, i, none⟩ = some (.int .u64 ((bs (tp l i k) 60 : Nat) : Int)) := by
            rw [cell_of_row wk sg i _ _ _ hk7, lk_get _ hi60, tS_row]
          have c8 : wk.cell? ⟨sg + 1, bn (bl (wB l i) 60) k, none⟩ = some (.int .u64 ((bs (wB l (bn (bl (wB l i) 60) k)) 60 : Nat) : Int)) := by
            rw [cell_of_row wk (sg + 1) _ _ _ _ hk8, lk_get _ hx60]
          have f7 : wk.frozen? ⟨sg, i, none⟩ = false := by simp [World.frozen?, hk7]
          have hand := andNot_bs (tp l i k) (wB l (bn (bl (wB l i) 60) k))
          have hyes : Hid (lk (upd (tS l i k) i (fun b => tp l i k b && !wB l (bn (bl (wB l i) 60) k) b)) = lk (tS l i (k + 1))) := tS_step l hkb
          have hlk : Hid ((lk (tS l i k)).setIfInBounds i (.int .u64 ((bs (fun b => tp l i k b && !wB l (bn (bl (wB l i) 60) k) b) 60 : Nat) : Int)) = lk (upd (tS l i k) i (fun b => tp l i k b && !wB l (bn (bl (wB l i) 60) k) b))) := lk_set _ _
          have hk2 : Hid (k ≤ 100000) := by have := hb1.out; show _ ≤ _; omega
          have hxi : ((bn (bl (wB l i) 60) k : Nat) : Int) < 60 := by omega
          have hgs : Hid (g ≠ sg) := by have := hsw.out; show _ ≠ _; omega
          have hrH : Hid (wk.ownsRow wr.heap.size 3 1 (.slice (some ⟨g, 0, none⟩) m c6) m (ints (bl (wB l i) 60))) := hr
          generalize bs (tp l i k) 60 = u at *
          generalize bs (wB l (bn (bl (wB l i) 60) k)) 60 = v at *
          generalize bs (fun b => tp l i k b && !wB l (bn (bl (wB l i) 60) k) b) 60 = z at *
          generalize bn (bl (wB l i) 60) k = y at *
          clear hr hkb
          go_wp2
          refine wp_region_still_tail 8 (by kernel_rfl) (by kernel_rfl) ?_
          simp only [List.take_succ_cons, List.take_zero, List.drop_succ_cons, List.drop_zero]
          repeat still_step
          refine wpStill_nil ?_
          change wpList _ _ _ _ _ (World.drew wk)
          have c7d : wk.drew.cell? ⟨sg, i, none⟩ = some (.int .u64 (u : Int)) := c7
          have f7d : wk.drew.frozen? ⟨sg, i, none⟩ = false := f7
          clear c7 c8 f7
          go_wp2
          refine ⟨⟨k + 1, ?_, hkm, ?_, ?_, ?_, ?_⟩, ?_⟩
          · first | exact int_succ k | exact int_wsucc hk2.out
          · rw [← hyes.out, ← hlk.out]
            exact heap_setCell_same wk sg i _ _ _ hk7
          · exact (Below.heap_setCell wk _ _ _ (by show sg + 1 ≠ sg; omega)).trans hk8
          · exact owns_set_other hrH.out ⟨sg, i, none⟩ _ (fun g' hg' => by have e : g = g' := by simpa [Value.ownBlock] using hg'
                                                                           rw [← e]; exact hgs.out)
          · exact (hbl.setCell (by show w.heap.size ≤ sg; exact hs3.out) _).drew
          · first | exact meas_1 hkm | exact meas_w hkm hk2.out
        · have hki : ¬ (k : Int) < (m : Int) := by omega
          have e : k = m := by omega
          subst e
          rw [tS_end l hmH.out] at hk7
          clear hr
          go_wp2
          refine ⟨⟨i + 1, ?_, hi60, hk7, hk8, hbl⟩, ?_⟩
          · first | exact int_succ i | exact int_wsucc (by omega)
          · first | exact meas_1 hi60 | exact meas_w hi60 (by omega)
    · have hii : ¬ (i : Int) < 60 := by omega
      have e : i = 60 := by omega
      subst e
      rw [tS_last] at hk7
      go_wp2_with (first
        | (refine wpList_load_row rfl 63 _ rfl _ rfl _ _ _ _ hk7 Tryd.underlying63 rfl (lk_info _) ?_)
        | (go_at_call 46; refine (hed.out wr hbl).mono ?_; rintro e w9 ⟨p9, c9, rfl, hr9, hb9⟩)
        | go_in)
      go_ret2
      exact ⟨p9, c9, rfl, owns_base' hr9 hbl.size, hbl.trans (hb9.mono hbl.size)⟩
end Go.Proofs.YtncjnmlgkhngaaaDoor
