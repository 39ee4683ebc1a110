/- Package pack: least: for each set of things the fewest boxes, and the least in the last one. -/
import Derived.Test.YtfnkboegbclnaaaKle
namespace Go.Proofs.Ytfnkboegbclnaaa
open Go.RowKit
set_option linter.unusedSectionVars false
set_option linter.unusedVariables false

/-- What is told of the set s, by what is told of those with one less. -/
structure Spc (l : List Int) (size : Int) (n : Nat) (F : Nat → Int × Int) (s : Nat) : Prop where
  way : ∃ i, i < n ∧ s.testBit i = true ∧ F s = wth (F (s - 2 ^ i)) (nm l i) size
  min : ∀ i, i < n → s.testBit i = true → lxLe (F s) (wth (F (s - 2 ^ i)) (nm l i) size)
/-- Up to S all is told. -/
structure Opt (l : List Int) (size : Int) (n : Nat) (F : Nat → Int × Int) (S : Nat) : Prop where
  zero : F 0 = (0, 0)
  spc : ∀ s, 0 < s → s < S → Spc l size n F s
  bd : ∀ s, s < S → 0 ≤ (F s).1 ∧ (F s).1 ≤ (s : Int) ∧ 0 ≤ (F s).2 ∧ (F s).2 ≤ size
def OfR (w : World) (g S T : Nat) (F : Nat → Int × Int) : Prop := (∀ j, j < S → w.rangeAt g (j * 2) [.int .i64 (F j).1, .int .i64 (F j).2]) ∧ w.there g 0 (T * 2)
/-- The ways to a set, by its first things. -/
def wayL (l : List Int) (size : Int) (F : Nat → Int × Int) (s i : Nat) : List (Int × Int) := ((List.range i).filter fun i => s.testBit i).map fun i => wth (F (s - 2 ^ i)) (nm l i) size
theorem wayL_len (l : List Int) (size : Int) (F : Nat → Int × Int) (s i : Nat) : (wayL l size F s i).length ≤ i := by
  unfold wayL
  rw [List.length_map]
  have := List.length_filter_le (fun i => s.testBit i) (List.range i)
  simpa using this
theorem wayL_yes {l : List Int} {size : Int} {F : Nat → Int × Int} {s i : Nat} (h : s.testBit i = true) : wayL l size F s (i + 1) = wayL l size F s i ++ [wth (F (s - 2 ^ i)) (nm l i) size] := by
  unfold wayL
  rw [List.range_succ, List.filter_append, List.map_append]
  simp [h]
theorem wayL_no {l : List Int} {size : Int} {F : Nat → Int × Int} {s i : Nat} (h : s.testBit i = false) : wayL l size F s (i + 1) = wayL l size F s i := by
  unfold wayL
  rw [List.range_succ, List.filter_append, List.map_append]
  simp [h]
theorem mem_wayL {l : List Int} {size : Int} {F : Nat → Int × Int} {s n : Nat} {x : Int × Int} : x ∈ wayL l size F s n ↔ ∃ i, i < n ∧ s.testBit i = true ∧ x = wth (F (s - 2 ^ i)) (nm l i) size := by
  unfold wayL
  rw [List.mem_map]
  constructor
  · rintro ⟨i, hi, rfl⟩
    obtain ⟨h1, h2⟩ := List.mem_filter.1 hi
    exact ⟨i, List.mem_range.1 h1, h2, rfl⟩
  · rintro ⟨i, h1, h2, rfl⟩
    exact ⟨i, List.mem_filter.2 ⟨List.mem_range.2 h1, h2⟩, rfl⟩
theorem bit_le {s i : Nat} (h : s.testBit i = true) : 2 ^ i ≤ s := Nat.ge_two_pow_of_testBit h
theorem some_bit {s n : Nat} (h0 : 0 < s) (hn : s < 2 ^ n) : ∃ i, i < n ∧ s.testBit i = true := by
  obtain ⟨i, hi⟩ := Nat.exists_testBit_of_ne_zero (x := s) (by omega)
  refine ⟨i, ?_, hi⟩
  have h1 := bit_le hi
  by_cases e : i < n
  · exact e
  · have := Nat.pow_le_pow_right (n := 2) (by omega) (show n ≤ i by omega)
    omega
theorem wth_bd {f : Int × Int} {x size : Int} (h : 0 ≤ f.1 ∧ 0 ≤ f.2 ∧ f.2 ≤ size) (hx : 1 ≤ x ∧ x ≤ size) : 0 ≤ (wth f x size).1 ∧ (wth f x size).1 ≤ f.1 + 1 ∧ 0 ≤ (wth f x size).2 ∧ (wth f x size).2 ≤ size := by
  unfold wth
  split
  · exact ⟨by simp only; omega, by simp only; omega, by simp only; omega, by simp only; omega⟩
  · rename_i hn
    exact ⟨by simp only; omega, by simp only; omega, by simp only; omega, by simp only; omega⟩
theorem Opt.step {l : List Int} {size : Int} {n : Nat} {F : Nat → Int × Int} {S : Nat} (h : Opt l size n F S) (h0 : 0 < S) (hl : ∀ i, i < n → 1 ≤ nm l i ∧ nm l i ≤ size) {m : Int × Int} (hm : m ∈ wayL l size F S n) (hle : ∀ y ∈ wayL l size F S n, lxLe m y) : Opt l size n (fun j => if j = S then m else F j) (S + 1) := by
  have hsame : ∀ s i, s ≤ S → s.testBit i = true → (if s - 2 ^ i = S then m else F (s - 2 ^ i)) = F (s - 2 ^ i) := fun s i hs hb => by
    have := bit_le hb
    have := Nat.two_pow_pos i
    rw [if_neg (by omega)]
  refine ⟨?_, fun s hs0 hs => ?_, fun s hs => ?_⟩
  · show (if 0 = S then m else F 0) = _
    rw [if_neg (by omega)]; exact h.zero
  · by_cases e : s = S
    · subst e
      constructor
      · obtain ⟨i, h1, h2, h3⟩ := mem_wayL.1 hm
        refine ⟨i, h1, h2, ?_⟩
        show (if s = s then m else F s) = wth (if s - 2 ^ i = s then m else F (s - 2 ^ i)) (nm l i) size
        rw [hsame s i (Nat.le_refl _) h2, if_pos rfl]; exact h3
      · intro i h1 h2
        show lxLe (if s = s then m else F s) (wth (if s - 2 ^ i = s then m else F (s - 2 ^ i)) (nm l i) size)
        rw [hsame s i (Nat.le_refl _) h2, if_pos rfl]
        exact hle _ (mem_wayL.2 ⟨i, h1, h2, rfl⟩)
    · have h5 := h.spc s hs0 (by omega)
      constructor
      · obtain ⟨i, h1, h2, h3⟩ := h5.way
        refine ⟨i, h1, h2, ?_⟩
        show (if s = S then m else F s) = wth (if s - 2 ^ i = S then m else F (s - 2 ^ i)) (nm l i) size
        rw [hsame s i (by omega) h2, if_neg e]; exact h3
      · intro i h1 h2
        show lxLe (if s = S then m else F s) (wth (if s - 2 ^ i = S then m else F (s - 2 ^ i)) (nm l i) size)
        rw [hsame s i (by omega) h2, if_neg e]; exact h5.min i h1 h2
  · show 0 ≤ (if s = S then m else F s).1 ∧ (if s = S then m else F s).1 ≤ (s : Int) ∧ 0 ≤ (if s = S then m else F s).2 ∧ (if s = S then m else F s).2 ≤ size
    by_cases e : s = S
    · rw [if_pos e]
      obtain ⟨i, h1, h2, h3⟩ := mem_wayL.1 hm
      have h4 := bit_le h2
      have h5 := Nat.two_pow_pos i
      obtain ⟨b1, b2, b3, b4⟩ := h.bd (S - 2 ^ i) (by omega)
      obtain ⟨c1, c2, c3, c4⟩ := wth_bd ⟨b1, b3, b4⟩ (hl i h1)
      rw [h3]
      refine ⟨c1, ?_, c3, c4⟩
      have : ((S - 2 ^ i : Nat) : Int) + 1 ≤ (s : Int) := by omega
      omega
    · rw [if_neg e]; exact h.bd s (by omega)

theorem and_bit : ∀ S : Nat, S < 512 → ∀ i : Nat, i < 9 → (bits BinOp.and IntKind.i64 (S : Int) ((2 ^ i : Nat) : Int) != 0) = S.testBit i := by decide +kernel
theorem setCells_size (b : Nat) : ∀ (vs : List Value) (o : Nat) (w : World), (w.setCells b o vs).heap.size = w.heap.size
  | [], _, _ => rfl
  | v :: r, o, w => by
    rw [World.setCells, setCells_size b r]
    simp [World.setCell]
theorem setCells_below {B : Nat} (b : Nat) (hB : B ≤ b) : ∀ (vs : List Value) (o : Nat) (w0 w : World), Below B w0 w → Below B w0 (w.setCells b o vs)
  | [], _, _, _, h => h
  | v :: r, o, w0, w, h => by
    rw [World.setCells]
    exact setCells_below b hB r (o + 1) w0 _ (h.setCell hB v)
theorem setCells_other (b : Nat) : ∀ (vs : List Value) (o : Nat) (w : World) (q : Nat), q ≠ b → (w.setCells b o vs).heap[q]? = w.heap[q]?
  | [], _, _, _, _ => rfl
  | v :: r, o, w, q, h => by
    rw [World.setCells, setCells_other b r (o + 1) _ q h]
    exact Below.heap_setCell w ⟨b, o, none⟩ v q h
theorem store_fl {ops : Array Oper} {rest : List Oper} {op : Oper} {a : Act} {w : World} {Q : Exit → Act → World → Prop} (hgd : op.guard = none) (x y : Operand) (ho : op.op = .store 47 x y) (b o : Nat) (u : Int × Int) (hx : a.eval x = .pointer (some ⟨b, o, none⟩)) (hy : a.eval y = .agg #[.int .i64 u.1, .int .i64 u.2]) (ht : w.there b o 2)
    (h : wpList Try.prog ops Q rest (a.put op.dst undef) (w.setCells b o [.int .i64 u.1, .int .i64 u.2])) : wpList Try.prog ops Q (op :: rest) a w :=
  wpList_store_mid hgd 47 x y ho b o #[.int .i64 u.1, .int .i64 u.2] hx hy ht (fl_info _ rfl) (fl_one _ _) h
theorem OfR.put {w : World} {g S T : Nat} {F : Nat → Int × Int} (h : OfR w g S T F) (hS : S < T) (m : Int × Int) : OfR (w.setCells g (S * 2) [.int .i64 m.1, .int .i64 m.2]) g (S + 1) T (fun j => if j = S then m else F j) := by
  have ht : w.there g (S * 2) 2 := fun j hj => by
    have := h.2 (S * 2 + j) (by omega)
    rwa [Nat.zero_add] at this
  refine ⟨fun j hj => ?_, World.there_setCells h.2 g (S * 2) _⟩
  show World.rangeAt _ g (j * 2) [.int .i64 (if j = S then m else F j).1, .int .i64 (if j = S then m else F j).2]
  by_cases e : j = S
  · rw [if_pos e, e]
    exact World.rangeAt_setCells_same w g (S * 2) [.int .i64 m.1, .int .i64 m.2] ht
  · rw [if_neg e]
    refine World.rangeAt_setCells_apart (h.1 j (by omega)) g (S * 2) _ (Or.inr (Or.inl ?_))
    show j * 2 + 2 ≤ S * 2
    omega
theorem info_fl : (Try.prog.info? 47).map (fun i => (i.zero, i.size, i.bytes)) = some (some (.agg #[.int .i64 0, .int .i64 0]), 2, 16) := by kernel_rfl
theorem OfR.below {w w' : World} {g S T B : Nat} {F : Nat → Int × Int} (h : OfR w g S T F) (hb : Below B w w') (hg : g < B) : OfR w' g S T F :=
  ⟨fun j hj k v hk => (hb.cell (p := ⟨g, j * 2 + k, none⟩) hg).trans (h.1 j hj k v hk), fun j hj => by
    obtain ⟨h1, h2⟩ := h.2 j hj
    have hh := hb.block g hg
    exact ⟨by rw [cell_of_heap (a := ⟨g, 0 + j, none⟩) hh]; exact h1, by
      have : w'.frozen? ⟨g, 0 + j, none⟩ = w.frozen? ⟨g, 0 + j, none⟩ := by unfold World.frozen?; rw [hh]
      rw [this]; exact h2⟩⟩

set_option maxHeartbeats 1000000 in
set_option maxRecDepth 100000 in
theorem least_any {w : World} {q : Option Addr} {l : List Int} {c n : Nat} (size : Int) (h : Nums w q l) (hn : l.length = n) (hn9 : n ≤ 9) (hl : ∀ x ∈ l, 1 ≤ x ∧ x ≤ size) (hs : 1 ≤ size ∧ size ≤ 1099511627776) :
    Calls Try.prog 28 #[.slice q n c, .int .i64 size] w fun e w' => (∃ F, Hid (Opt l size n F (2 ^ n)) ∧ e = .returned (.agg #[.int .i64 (F (2 ^ n - 1)).1, .int .i64 (F (2 ^ n - 1)).2])) ∧ Below w.heap.size w w' := by
  have hNH : Hid (∀ w1, Below w.heap.size w w1 → Nums w1 q l) := fun w1 hb => h.below hb (Nat.le_refl _)
  have hlH : Hid (∀ i, i < n → 1 ≤ nm l i ∧ nm l i ≤ size) := fun i hi => hl _ (nm_mem (by omega))
  have hsH : Hid (1 ≤ size ∧ size ≤ 1099511627776) := hs
  have hnH : Hid (l.length = n ∧ n ≤ 9) := ⟨hn, hn9⟩
  have hn0 : ¬ (n : Int) < 0 := by omega
  have hn64 : (n : Int) < 64 := by omega
  clear h hl hs hn hn9
  obtain ⟨T, hT⟩ : ∃ T, T = 2 ^ n := ⟨_, rfl⟩
  have hT5 : 1 ≤ T ∧ T ≤ 512 := by
    have h1 := Nat.pow_le_pow_right (n := 2) (by omega) hnH.out.2
    have h2 := Nat.two_pow_pos n
    rw [hT]
    omega
  have hTH : Hid (T = 2 ^ n ∧ 1 ≤ T ∧ T ≤ 512) := ⟨hT, hT5⟩
  have hTw : wrap64 (2 ^ n) = (T : Int) := by
    have : ((2 : Int) ^ n) = ((2 ^ n : Nat) : Int) := by simp
    rw [this, ← hT]
    unfold wrap64
    omega
  have hB1 : Hid (Below w.heap.size w (w.alloc (.cells #[.int .i64 0, .int .i64 0] 47))) := (Below.refl _ _).alloc (Nat.le_refl _) _
  have hs1 : Hid ((w.alloc (.cells #[.int .i64 0, .int .i64 0] 47)).heap.size = w.heap.size + 1) := by show _ = _; simp
  have g0 := heap_alloc_new w (.cells #[.int .i64 0, .int .i64 0] 47)
  rw [← hT]
  clear hT hT5
  go_enter Try.func28, Try.ntmps28
  go_wp2_with (first
    | (at_make; simp only [hTw]; obtain ⟨ih, hi9, hz0, hz1, hz2⟩ := info_parts info_fl; refine wpList_make_full _ rfl _ _ 59 rfl (w.heap.size + 1) 47 ih (.agg #[.int .i64 0, .int .i64 0]) 2 Try.underlying59 hi9 hz0 hz1 _ _ _ _ T rfl rfl rfl rfl (by rw [hz2]; have := hTH.out; omega) (by unfold maxLen; have := hTH.out; omega) (by rw [hs1.out]; omega) ?_; intro w3 hown3 hgrow3; clear hi9 hz0 hz1 hz2)
    | fail)
  rw [hs1.out] at hown3
  have ht3 : w3.there (w.heap.size + 1) 0 (T * 2) := fun j hj => by
    rw [Nat.zero_add]
    refine ⟨?_, hown3.frozenAt j⟩
    rw [hown3.cellAt j hj, List.getElem?_eq_getElem (by have := hown3.1; omega)]
    rfl
  have hz3 : w3.rangeAt (w.heap.size + 1) (0 * 2) [.int .i64 0, .int .i64 0] := fun k v hk => by
    have hk2 : k < 2 := (List.getElem?_eq_some_iff.1 hk).1
    have e : w3.cell? ⟨w.heap.size + 1, k, none⟩ = (madeCells (Value.agg #[.int .i64 0, .int .i64 0]).cells (T * 2)).toList[k]? := hown3.cellAt k (by have := hTH.out; omega)
    rw [Nat.zero_mul, Nat.zero_add, e, ← hk]
    have hT2 : k < T * 2 := by have := hTH.out; omega
    rcases (show k = 0 ∨ k = 1 by omega) with rfl | rfl
    · simp [madeCells, Value.cells, hT2]
    · simp [madeCells, Value.cells, hT2]
  have hg3 : w.heap.size + 1 < w3.heap.size := (hown3.lt _ rfl).2
  have hB3 : Below w.heap.size w w3 := hB1.out.trans ⟨hgrow3.os, hgrow3.tape, hgrow3.output, hgrow3.size, fun k hk => hgrow3.block k (by rw [hs1.out]; omega) (by simp)⟩
  have r3 : w3.heap[w.heap.size]? = some (.cells #[.int .i64 0, .int .i64 0] 47 (0, 0)) := (hgrow3.block w.heap.size (by rw [hs1.out]; omega) (by simp)).trans g0
  have hO3 : Hid (OfR w3 (w.heap.size + 1) 1 T (fun _ => (0, 0))) := ⟨fun j hj => by
    have : j = 0 := by omega
    rw [this]; exact hz3, ht3⟩
  have hg3H : Hid (w.heap.size + 1 < w3.heap.size) := hg3
  have hB3H : Hid (Below w.heap.size w w3) := hB3
  have r3H : Hid (w3.heap[w.heap.size]? = some (.cells #[.int .i64 0, .int .i64 0] 47 (0, 0))) := r3
  clear hown3 hgrow3 ht3 hz3 hg3 hB3 r3 g0
  try simp only [hTw]
  clear hTw
  obtain ⟨r0, hr0⟩ : ∃ r0, r0 = w.heap.size := ⟨_, rfl⟩
  rw [← hr0] at hO3 hg3H r3H ⊢
  have hr0H : Hid (r0 = w.heap.size) := hr0
  obtain ⟨gg, hgg⟩ : ∃ gg, gg = r0 + 1 := ⟨_, rfl⟩
  rw [← hgg] at hO3 hg3H ⊢
  have hggH : Hid (gg = r0 + 1) := hgg
  clear hr0 hgg
  have hOp1 : Hid (Opt l size n (fun _ => (0, 0)) 1) := ⟨rfl, fun s h1 h2 => by omega, fun s hs => ⟨by show (0 : Int) ≤ 0; omega, by show (0 : Int) ≤ (s : Int); omega, by show (0 : Int) ≤ 0; omega, by show (0 : Int) ≤ size; have := hsH.out; omega⟩⟩
  go_loopg [6] T (fun gz sv wr => ∃ (S : Nat) (F : Nat → Int × Int), sv = .int .i64 S ∧ T - S ≤ gz ∧ Hid (1 ≤ S ∧ S ≤ T) ∧ Hid (Opt l size n F S) ∧ Hid (OfR wr gg S T F) ∧ wr.heap[r0]? = some (.cells #[.int .i64 0, .int .i64 0] 47 (0, 0)) ∧ Hid (Below r0 w wr ∧ gg < wr.heap.size))
  case atStart => exact ⟨1, _, rfl, by omega, ⟨Nat.le_refl _, hTH.out.2.1⟩, hOp1, hO3, r3H.out, ⟨by rw [hr0H.out]; exact hB3H.out, hg3H.out⟩⟩
  case round =>
    clear hOp1 hO3 r3H hB3H
    obtain ⟨S, F, rfl, hgz, hS, hOp, hOf, g0, hbl⟩ := hrel
    by_cases hST : S < T
    · have hSz : (S : Int) < (T : Int) := by omega
      have hSH : Hid (S < T) := hST
      have g0H : Hid (wr.heap[r0]? = some (.cells #[.int .i64 0, .int .i64 0] 47 (0, 0))) := g0
      clear hST g0
      go_wp2
      go_loopg [7, 23] n (fun gz2 ov iv wq => ∃ (i : Nat) (q2 : Option Addr) (c2 : Nat), iv = .int .i64 i ∧ ov = .slice q2 (wayL l size F S i).length c2 ∧ n - i ≤ gz2 ∧ Hid (i ≤ n) ∧ Hid (wq.ownsRow wr.heap.size 47 2 (.slice q2 (wayL l size F S i).length c2) (wayL l size F S i).length ((wayL l size F S i).flatMap fun x => [.int .i64 x.1, .int .i64 x.2])) ∧ Hid (Below wr.heap.size wr wq))
      case atStart => exact ⟨0, none, 0, rfl, rfl, by omega, Nat.zero_le _, World.ownsRow_nil _ _ _ _, Below.refl _ _⟩
      case round =>
        rename World => wq
        obtain ⟨i, q2, c2, rfl, rfl, hgz2, hi, hown, hbq⟩ := hrel
        by_cases hin : i < n
        · have hiz : (i : Int) < (n : Int) := by omega
          have hiH : Hid (i < n) := hin
          obtain ⟨gl, ol, rfl, hAl⟩ := (hNH.out wq ((hr0H.out ▸ hbl.out.1).trans (hbq.out.mono (by have := hbl.out.1.size; exact this)))).resolve_left (by have := hnH.out; omega)
          have zl := hAl.c i (by have := hnH.out; omega)
          have hxi := hlH.out i hin
          have hS9 := hS.out
          have hT9 := hTH.out
          have hn9 := hnH.out.2
          obtain ⟨P, hP⟩ : ∃ P, P = 2 ^ i := ⟨_, rfl⟩
          have hPwH : Hid (wrap64 ((2 : Int) ^ i) = (P : Int)) := by
            show _ = _
            have h1 := Nat.pow_le_pow_right (n := 2) (by omega) (show i ≤ 9 by omega)
            have e : ((2 : Int) ^ i) = ((2 ^ i : Nat) : Int) := by simp
            rw [e, ← hP]
            unfold wrap64
            omega
          have hbit0 := and_bit S (by omega) i (by omega)
          rw [← hP] at hbit0
          have hi5 : Hid (i ≤ 100000) := by show _ ≤ _; omega
          have hownH : Hid _ := hown
          cases hbt : S.testBit i with
          | true =>
            rw [hbt] at hbit0
            have hle := bit_le hbt
            have hpos := Nat.two_pow_pos i
            obtain ⟨D, hD⟩ : ∃ D, D = S - 2 ^ i := ⟨_, rfl⟩
            have hDS : D < S := by omega
            have hDT : (D : Int) < (T : Int) := by omega
            have hDP : S = D + P := by omega
            have hOq := hOf.out.below hbq.out hbl.out.2
            have zD := hOq.1 D hDS
            have z1 : wq.cell? ⟨gg, D * 2, none⟩ = some (.int .i64 (F D).1) := zD 0 _ rfl
            have z2 : wq.cell? ⟨gg, D * 2 + 1, none⟩ = some (.int .i64 (F D).2) := zD 1 _ rfl
            have hbd := hOp.out.bd D hDS
            have hyes := wayL_yes (l := l) (size := size) (F := F) hbt
            rw [← hD] at hyes
            have hyesH : Hid (wayL l size F S (i + 1) = wayL l size F S i ++ [wth (F D) (nm l i) size]) := hyes
            have hwith := fun w1 => with_any (F D) (nm l i) size w1 ⟨hbd.1, by omega, hbd.2.2.1, by have := hsH.out; omega⟩ ⟨by omega, by have := hsH.out; omega⟩
            have hlen := wayL_len l size F S i
            have hlenH : Hid ((wayL l size F S i).length ≤ 9) := by show _ ≤ _; omega
            have hwq : Hid (wr.heap.size ≤ wq.heap.size) := hbq.out.size
            have hDw : wrap64 ((S : Int) - (P : Int)) = (D : Int) := by unfold wrap64; omega
            have hPw := hPwH.out
            clear hin hAl hxi hS9 hT9 hn9 hP hbt hle hpos hD hDS hDP hOq zD hbd hyes hlen hown
            generalize wth (F D) (nm l i) size = y at *
            go_wp2_with (first
              | (go_at_call 38; refine (hwith _).mono ?_; rintro e w5 ⟨rfl, hb5⟩; clear hwith; have hown5 := row_below hownH.out hb5; have hs5 := hb5.size; have hq5 := hwq.out; have hl5 := hlenH.out)
              | (at_builtin; obtain ⟨i0, hi9, hz0, hz1, hz2⟩ := info_parts info_fl; refine wpList_append_own_at _ rfl _ _ 59 rfl wr.heap.size 47 i0 (.agg #[.int .i64 0, .int .i64 0]) 2 16 Try.underlying59 hi9 hz0 hz1 hz2 rfl (by decide) _ _ _ rfl (hown5.alloc _) ⟨w5.heap.size, 0, none⟩ 1 1 [.int .i64 y.1, .int .i64 y.2] rfl rfl (cells_new _ _ _) (fun v hv => by simp at hv; rcases hv with rfl | rfl <;> rfl) (by unfold maxLen; omega) (by omega) (by simp; omega) ?_; intro v' w6 hown6 hgrow6 hnil6 hloc6; clear hi9 hz0 hz1 hz2 hnil6; obtain ⟨g6, cap6, rfl⟩ := form_succ hown6)
              | fail)
            clear hPw hDw
            have hb6 : Below wr.heap.size wr w5 := hbq.out.trans (hb5.mono hbq.out.size)
            have hb7 : Hid (Below wr.heap.size wr w6) := below_app hb6 hown5 hgrow6 (Nat.le_refl _) hb6.size
            go_roundg (n - (i + 1))
            case measure => have := hiH.out; omega
            case rel =>
              refine ⟨i + 1, some ⟨g6, 0, none⟩, cap6, by first | exact int_wsucc hi5.out | exact int_succ i, by rw [hyesH.out, List.length_append]; rfl, Nat.le_refl _, hiH.out, ?_, hb7⟩
              rw [hyesH.out, List.length_append, List.flatMap_append]
              exact hown6
          | false =>
            rw [hbt] at hbit0
            have hnoH : Hid (wayL l size F S (i + 1) = wayL l size F S i) := wayL_no hbt
            have hPw := hPwH.out
            clear hin hAl hxi hS9 hT9 hn9 hP hbt hown
            go_wp2
            clear hPw
            go_roundg (n - (i + 1))
            case measure => have := hiH.out; omega
            case rel => exact ⟨i + 1, q2, c2, by first | exact int_wsucc hi5.out | exact int_succ i, by rw [hnoH.out], Nat.le_refl _, hiH.out, by rw [hnoH.out]; exact hownH.out, hbq⟩
        · have hiz : ¬ (i : Int) < (n : Int) := by omega
          have e : i = n := by have := hi.out; omega
          subst e
          have hS9 := hS.out
          have hTz := hTH.out
          obtain ⟨k0, hk0, hkb⟩ := some_bit (s := S) (n := i) (by omega) (by rw [← hTz.1]; exact hSH.out)
          have hwl : 0 < (wayL l size F S i).length := by
            have : wth (F (S - 2 ^ k0)) (nm l k0) size ∈ wayL l size F S i := mem_wayL.2 ⟨k0, hk0, hkb, rfl⟩
            exact List.length_pos_of_mem this
          have hlen := wayL_len l size F S i
          obtain ⟨g5, c5, e5⟩ : ∃ g5 c5, Value.slice q2 (wayL l size F S i).length c2 = .slice (some ⟨g5, 0, none⟩) (wayL l size F S i).length c5 := by
            obtain ⟨k, hk⟩ : ∃ k, (wayL l size F S i).length = k + 1 := ⟨_, (Nat.succ_pred_eq_of_pos hwl).symm⟩
            have h2 := hown.out
            rw [hk] at h2 ⊢
            exact form_succ h2
          simp only [Value.slice.injEq, true_and] at e5
          obtain ⟨rfl, rfl⟩ := e5
          have hgl := (hown.out.lt g5 rfl).2
          have hrow : RowF wq g5 (wayL l size F S i) := fun j x hx => by
            have hj := (List.getElem?_eq_some_iff.1 hx).1
            have h2 : ∀ (L : List (Int × Int)) (j : Nat) (x : Int × Int), L[j]? = some x → (L.flatMap fun x => [Value.int .i64 x.1, .int .i64 x.2])[j * 2]? = some (.int .i64 x.1) ∧ (L.flatMap fun x => [Value.int .i64 x.1, .int .i64 x.2])[j * 2 + 1]? = some (.int .i64 x.2) := by
              intro L
              induction L with
              | nil => intro j x hx; simp at hx
              | cons y r ih =>
                intro j x hx
                cases j with
                | zero => simp at hx; subst hx; simp
                | succ j =>
                  simp at hx
                  have := ih j x hx
                  rw [show (j + 1) * 2 = j * 2 + 2 by omega]
                  simpa using this
            obtain ⟨h3, h4⟩ := h2 _ j x hx
            exact ⟨by rw [hown.out.cellAt (j * 2) (by omega)]; exact h3, by rw [hown.out.cellAt (j * 2 + 1) (by omega)]; exact h4⟩
          have hmin := minF_any (wayL l size F S i) (wayL l size F S i).length c2 g5 wq rfl hwl (by have := hnH.out; omega) hgl hrow
          have hOq : Hid (OfR wq gg S T F) := hOf.out.below hbq.out hbl.out.2
          have g0q : Hid (wq.heap[r0]? = some (.cells #[.int .i64 0, .int .i64 0] 47 (0, 0))) := (hbq.out.block r0 (Array.getElem?_eq_some_iff.1 g0H.out).1).trans g0H.out
          have hbw : Hid (Below r0 w wq ∧ gg < wq.heap.size) := ⟨hbl.out.1.trans (hbq.out.mono (by have := hbl.out.1.size; rw [hr0H.out]; exact this)), Nat.lt_of_lt_of_le hbl.out.2 hbq.out.size⟩
          have hSz9 : (S : Int) < (T : Int) := by have := hSH.out; omega
          have hS5 : Hid (S ≤ 100000) := by show _ ≤ _; omega
          clear hS9 hTz hwl hlen hgl hrow hkb hk0
          have hSt : Hid (S < T) := hSH.out
          go_wp2_with (first
            | (go_at_call 39; refine hmin.mono ?_; rintro e w7 ⟨⟨m, hm, hle, rfl⟩, hb7⟩; clear hmin; have hO7 := hOq.out.below hb7 hbw.out.2)
            | (refine store_fl rfl _ _ rfl gg (S * 2) m rfl rfl ?ht ?_; case ht => exact fun j hj => by have h7 := hO7.2 (S * 2 + j) (by have h8 := hSt.out; omega); rwa [Nat.zero_add] at h7)
            | fail)
          go_roundg (T - (S + 1))
          case measure => have := hSt.out; omega
          case rel =>
            refine ⟨S + 1, _, by first | exact int_wsucc hS5.out | exact int_succ S, Nat.le_refl _, ⟨by omega, hSt.out⟩, hOp.out.step (by have := hS.out; omega) hlH.out hm hle, hO7.put hSt.out m, ?_, ?_⟩
            · rw [setCells_other gg _ _ _ r0 (by have := hggH.out; omega), hb7.block r0 (Array.getElem?_eq_some_iff.1 g0q.out).1]
              exact g0q.out
            · exact ⟨setCells_below gg (by have := hggH.out; omega) _ _ _ _ (hbw.out.1.trans (hb7.mono (by have := hbw.out.1.size; rw [hr0H.out]; exact this))), by rw [setCells_size]; exact Nat.lt_of_lt_of_le hbw.out.2 hb7.size⟩
    · have hSz : ¬ (S : Int) < (T : Int) := by omega
      have e : S = T := by have := hS.out; omega
      subst e
      have hS9 := hTH.out
      have hTw9 : wrap64 ((S : Int) - 1) = ((S - 1 : Nat) : Int) := by unfold wrap64; omega
      have zD := hOf.out.1 (S - 1) (by omega)
      have z1 : wr.cell? ⟨gg, (S - 1) * 2, none⟩ = some (.int .i64 (F (S - 1)).1) := zD 0 _ rfl
      have z2 : wr.cell? ⟨gg, (S - 1) * 2 + 1, none⟩ = some (.int .i64 (F (S - 1)).2) := zD 1 _ rfl
      have hlt9 : ((S - 1 : Nat) : Int) < (S : Int) := by omega
      have hOpT : Hid (Opt l size n F (2 ^ n)) := by rw [← hTH.out.1]; exact hOp.out
      obtain ⟨D, hD⟩ : ∃ D, D = S - 1 := ⟨_, rfl⟩
      rw [← hD] at hTw9 z1 z2 hlt9
      have hDH : Hid (D = S - 1) := hD
      clear hD hS9 zD hST
      go_wp2_with (first
        | (refine wpList_store_row rfl 47 _ _ rfl _ #[.int .i64 (F D).1, .int .i64 (F D).2] rfl rfl _ _ g0 (fl_info _ rfl) rfl (fl_one _ _) ?_)
        | fail)
      refine bodyPost_ret (results_cell_row Try.results28 _ _ r0 _ #[.int .i64 (F D).1, .int .i64 (F D).2] (0, 0) _ rfl (setRow_heap wr r0 _ _ _ _ g0) Try.underlying47 rfl (fl_info _ rfl)) rfl ⟨⟨F, hOp, by rw [← hDH.out]⟩, ?_⟩
      rw [← hr0H.out]
      exact below_row hbl.out.1 (Nat.le_refl _)
end Go.Proofs.Ytfnkboegbclnaaa
