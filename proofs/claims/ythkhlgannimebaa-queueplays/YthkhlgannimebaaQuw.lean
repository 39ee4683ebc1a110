/- The heap of things as it lies in memory, and the calls that the library's heap makes of it: who is first (order, Less), how many (Len), and two that change places (Swap). -/
import Derived.Test.YthkhlgannimebaaQum
import Derived.Test.YthkhlgannimebaaChecked
import Derived.StillTailTactics
import Derived.WalkKit
import Derived.Sort.Grow
import Derived.Sort.Walk7
namespace Go.Proofs.Ythkhlgannimebaa
open Go.RowKit Go.Maps Go.Sort Qum
set_option linter.unusedSectionVars false

/-- The object that a thing is, at its place. -/
def thO (x : Th) (k : Nat) : Obj := .cells #[.int .i64 x.p, .int .i64 x.i, .int .i64 x.t, .int .i64 k] 63 (0, 0)
def ptrs (H : List Nd) : List Value := H.map fun y => ptV y.b

/-- The queue in the block qb: the turns given, its row v of pointers, its map; and each thing in its block. -/
structure Pl (B : Nat) (w : World) (qb : Nat) (tn : Int) (bm : Nat) (v : Value) (H : List Nd) : Prop where
  row : w.ownsRow B 60 1 v H.length (ptrs H)
  thg : ∀ k, k < H.length → w.heap[(nd H k).b]? = some (thO (nd H k).x k)
  bas : ∀ k, k < H.length → B ≤ (nd H k).b
  dis : ∀ k l, k < l → l < H.length → (nd H k).b ≠ (nd H l).b
  que : w.heap[qb]? = some (.cells #[.int .i64 tn, v, .map (some bm)] 59 (0, 0))
  qbs : B ≤ qb

/-- A block of the queue's own make. -/
def tagd (w : World) (k : Nat) : Bool := match w.heap[k]? with
  | some (.cells _ t _) => t == 60 || t == 63 || t == 59
  | _ => false

/-- Of what was there nothing has turned but blocks of the queue's own make, none of them below B, and the map bm. -/
structure Fq (B : Nat) (bm : Option Nat) (w w' : World) : Prop where
  os : w'.os = w.os
  tape : w'.tape = w.tape
  output : w'.output = w.output
  size : w.heap.size ≤ w'.heap.size
  low : ∀ k, k < B → w'.heap[k]? = w.heap[k]?
  oth : ∀ k, k < w.heap.size → some k ≠ bm → tagd w k = false → w'.heap[k]? = w.heap[k]?

theorem tagd_of {w w' : World} {k : Nat} (h : w'.heap[k]? = w.heap[k]?) : tagd w' k = tagd w k := by unfold tagd; rw [h]
theorem Fq.refl (B : Nat) (bm : Option Nat) (w : World) : Fq B bm w w := ⟨rfl, rfl, rfl, Nat.le_refl _, fun _ _ => rfl, fun _ _ _ _ => rfl⟩
theorem Fq.trans {B : Nat} {bm : Option Nat} {a b c : World} (h : Fq B bm a b) (k : Fq B bm b c) : Fq B bm a c :=
  ⟨k.os.trans h.os, k.tape.trans h.tape, k.output.trans h.output, Nat.le_trans h.size k.size, fun i hi => (k.low i hi).trans (h.low i hi), fun i hi h1 h2 => (k.oth i (Nat.lt_of_lt_of_le hi h.size) h1 ((tagd_of (h.oth i hi h1 h2)).trans h2)).trans (h.oth i hi h1 h2)⟩
theorem Fq.below {B : Nat} {bm : Option Nat} {w w' : World} (h : Fq B bm w w') : Below B w w' := ⟨h.os, h.tape, h.output, h.size, h.low⟩
theorem Fq.wide {B : Nat} {w w' : World} (h : Fq B none w w') (bm : Option Nat) : Fq B bm w w' := ⟨h.os, h.tape, h.output, h.size, h.low, fun k hk _ ht => h.oth k hk (by simp) ht⟩
theorem Fq.grow {B : Nat} (bm : Option Nat) (w : World) (q : Nat) (os : Array Obj) (hB : B ≤ w.heap.size) : Fq B bm w (grow (w.drewN q) os) :=
  ⟨rfl, rfl, rfl, by simp [Go.Sort.grow], fun _ hk => heap_grow_old _ _ (by show _ < w.heap.size; omega), fun _ hk _ _ => heap_grow_old _ _ hk⟩
theorem Fq.drew (B : Nat) (bm : Option Nat) (w : World) : Fq B bm w w.drew := ⟨rfl, rfl, rfl, Nat.le_refl _, fun _ _ => rfl, fun _ _ _ _ => rfl⟩
theorem Fq.alloc {B : Nat} (bm : Option Nat) (w : World) (o : Obj) (hB : B ≤ w.heap.size) : Fq B bm w (w.alloc o) :=
  ⟨rfl, rfl, rfl, by simp, fun k hk => Below.heap_alloc w o k (by omega), fun k hk _ _ => Below.heap_alloc w o k hk⟩
theorem Fq.set {B : Nat} (bm : Option Nat) (w : World) (a : Addr) (u : Value) (hB : B ≤ a.block) (ht : tagd w a.block = true) : Fq B bm w (w.setCell a u) :=
  ⟨rfl, rfl, rfl, by simp [World.setCell], fun k hk => Below.heap_setCell w a u k (by omega), fun k _ _ h => Below.heap_setCell w a u k (fun e => by subst e; rw [ht] at h; cases h)⟩
theorem Fq.below_of {B : Nat} {bm : Option Nat} {w w' : World} (h : Below w.heap.size w w') (hB : B ≤ w.heap.size) : Fq B bm w w' :=
  ⟨h.os, h.tape, h.output, h.size, fun k hk => h.block k (by omega), fun k hk _ _ => h.block k hk⟩
theorem Fq.grown {B : Nat} {bm : Option Nat} {w w' : World} {g : Nat} (h : w.grownBy w' (some g)) (hB : B ≤ g) (hBs : B ≤ w.heap.size) (ht : tagd w g = true ∨ bm = some g) : Fq B bm w w' :=
  ⟨h.os, h.tape, h.output, h.size, fun k hk => h.block k (by omega) (fun e => by cases e; omega), fun k hk h1 h2 => h.block k hk (fun e => by cases e; rcases ht with ht | ht; (rw [ht] at h2; cases h2); exact h1 ht.symm)⟩
theorem Fq.grown_none {B : Nat} {bm : Option Nat} {w w' : World} (h : w.grownBy w' none) (hBs : B ≤ w.heap.size) : Fq B bm w w' :=
  ⟨h.os, h.tape, h.output, h.size, fun k hk => h.block k (by omega) (by simp), fun k hk _ _ => h.block k hk (by simp)⟩

theorem lawK : Keyed Try.prog 3 := int_keyed Try.underlying3
def cmpI (x y : Int) : Int := if x < y then -1 else if y < x then 1 else 0
def cfQ (x y : Th) : Int := if cmpI y.p x.p = 0 then cmpI x.t y.t else cmpI y.p x.p

theorem isnan_any (x : Int) (w : World) : Calls Try.prog 51 #[.int .i64 x] w fun e w' => e = .returned (.bool false) ∧ w' = w := by
  go_enter Try.func51, Try.ntmps51
  go_wp2
  go_ret
  exact ⟨by simp, rfl⟩

theorem isnan64_any (x : Int) (w : World) : Calls Try.prog 52 #[.int .i64 x] w fun e w' => e = .returned (.bool false) ∧ w' = w := by
  go_enter Try.func52, Try.ntmps52
  go_wp2
  go_ret
  exact ⟨by simp, rfl⟩

set_option maxRecDepth 100000 in
theorem compare_any (x y : Int) (w : World) : Calls Try.prog 39 #[.int .i64 x, .int .i64 y] w fun e w' => e = .returned (.int .i64 (cmpI x y)) ∧ w' = w := by
  have hn := isnan_any
  by_cases h1 : x < y
  · have e : cmpI x y = -1 := by simp [cmpI, h1]
    rw [e]
    go_enter Try.func39, Try.ntmps39
    go_wp2_with (first | (go_at_call 51; refine (hn _ _).mono ?_; rintro e w' ⟨rfl, rfl⟩) | go_in)
    go_ret
    exact ⟨rfl, rfl⟩
  · by_cases h2 : y < x
    · have e : cmpI x y = 1 := by simp [cmpI, h1, h2]
      rw [e]
      go_enter Try.func39, Try.ntmps39
      go_wp2_with (first | (go_at_call 51; refine (hn _ _).mono ?_; rintro e w' ⟨rfl, rfl⟩) | go_in)
      go_ret
      exact ⟨rfl, rfl⟩
    · have e : cmpI x y = 0 := by simp [cmpI, h1, h2]
      rw [e]
      go_enter Try.func39, Try.ntmps39
      go_wp2_with (first | (go_at_call 51; refine (hn _ _).mono ?_; rintro e w' ⟨rfl, rfl⟩) | go_in)
      go_ret
      exact ⟨rfl, rfl⟩

set_option maxRecDepth 100000 in
theorem compare64_any (x y : Int) (w : World) : Calls Try.prog 40 #[.int .i64 x, .int .i64 y] w fun e w' => e = .returned (.int .i64 (cmpI x y)) ∧ w' = w := by
  have hn := isnan64_any
  by_cases h1 : x < y
  · have e : cmpI x y = -1 := by simp [cmpI, h1]
    rw [e]
    go_enter Try.func40, Try.ntmps40
    go_wp2_with (first | (go_at_call 52; refine (hn _ _).mono ?_; rintro e w' ⟨rfl, rfl⟩) | go_in)
    go_ret
    exact ⟨rfl, rfl⟩
  · by_cases h2 : y < x
    · have e : cmpI x y = 1 := by simp [cmpI, h1, h2]
      rw [e]
      go_enter Try.func40, Try.ntmps40
      go_wp2_with (first | (go_at_call 52; refine (hn _ _).mono ?_; rintro e w' ⟨rfl, rfl⟩) | go_in)
      go_ret
      exact ⟨rfl, rfl⟩
    · have e : cmpI x y = 0 := by simp [cmpI, h1, h2]
      rw [e]
      go_enter Try.func40, Try.ntmps40
      go_wp2_with (first | (go_at_call 52; refine (hn _ _).mono ?_; rintro e w' ⟨rfl, rfl⟩) | go_in)
      go_ret
      exact ⟨rfl, rfl⟩

set_option maxRecDepth 100000 in
theorem or_any (b : Nat) (x y : Int) (w : World) (h0 : w.cell? ⟨b, 0, none⟩ = some (.int .i64 x)) (h1 : w.cell? ⟨b, 1, none⟩ = some (.int .i64 y)) :
    Calls Try.prog 38 #[.slice (some ⟨b, 0, none⟩) 2 2] w fun e w' => e = .returned (.int .i64 (if x = 0 then y else x)) ∧ w' = w := by
  by_cases hx : x = 0
  · subst hx
    rw [if_pos rfl]
    by_cases hy : y = 0
    · subst hy
      go_enter Try.func38, Try.ntmps38
      go_wp2
      refine wp_loop_rounds 3 ?_
      rw [rounds_succ]
      go_wp2
      rw [rounds_succ]
      go_wp2
      rw [rounds_succ]
      go_wp2
      go_ret
      exact ⟨rfl, rfl⟩
    · go_enter Try.func38, Try.ntmps38
      go_wp2
      refine wp_loop_rounds 2 ?_
      rw [rounds_succ]
      go_wp2
      rw [rounds_succ]
      go_wp2
      go_ret
      exact ⟨rfl, rfl⟩
  · rw [if_neg hx]
    go_enter Try.func38, Try.ntmps38
    go_wp2
    refine wp_loop_rounds 1 ?_
    rw [rounds_succ]
    go_wp2
    go_ret
    exact ⟨rfl, rfl⟩

theorem th_cells {w : World} {b k : Nat} {x : Th} (h : w.heap[b]? = some (thO x k)) : w.cell? ⟨b, 0, none⟩ = some (.int .i64 x.p) ∧ w.cell? ⟨b, 1, none⟩ = some (.int .i64 x.i) ∧ w.cell? ⟨b, 2, none⟩ = some (.int .i64 x.t) ∧ w.cell? ⟨b, 3, none⟩ = some (.int .i64 k) :=
  ⟨(cell_of_row w _ 0 _ _ _ h).trans rfl, (cell_of_row w _ 1 _ _ _ h).trans rfl, (cell_of_row w _ 2 _ _ _ h).trans rfl, (cell_of_row w _ 3 _ _ _ h).trans rfl⟩

set_option maxRecDepth 100000 in
theorem order_any {w : World} {a b ka kb : Nat} {x y : Th} (ha : w.heap[a]? = some (thO x ka)) (hb : w.heap[b]? = some (thO y kb)) :
    Calls Try.prog 32 #[ptV a, ptV b] w fun e w' => e = .returned (.int .i64 (cfQ x y)) ∧ ∃ q os', w' = grow (w.drewN q) os' := by
  obtain ⟨a0, _, a2, _⟩ := th_cells ha
  obtain ⟨b0, _, b2, _⟩ := th_cells hb
  have hcf : Hid (cfQ x y = if cmpI y.p x.p = 0 then cmpI x.t y.t else cmpI y.p x.p) := show _ = _ from rfl
  generalize cfQ x y = r at hcf ⊢
  unfold ptV
  clear ha hb
  go_enter Try.func32, Try.ntmps32
  go_wp2
  refine wp_region_still_tail 20 (by kernel_rfl) (by kernel_rfl) ?_
  simp only [List.take_succ_cons, List.take_zero, List.drop_succ_cons, List.drop_zero]
  repeat (first | still_step | still_call (compare_any _ _ _) | still_call (compare64_any _ _ _))
  refine wpStill_nil ?_
  generalize cmpI y.p x.p = c1 at *
  generalize cmpI x.t y.t = c2 at *
  clear a0 a2 b0 b2
  change wpList _ _ _ _ _ (World.drew w)
  have hn0 : ((World.drew w).alloc (.cells #[.int .i64 c1, .int .i64 c2] 3)).cell? ⟨w.heap.size, 0, none⟩ = some (.int .i64 c1) := (cell_of_row _ _ _ _ _ _ (heap_alloc_new _ _)).trans rfl
  have hn1 : ((World.drew w).alloc (.cells #[.int .i64 c1, .int .i64 c2] 3)).cell? ⟨w.heap.size, 1, none⟩ = some (.int .i64 c2) := (cell_of_row _ _ _ _ _ _ (heap_alloc_new _ _)).trans rfl
  have hor := or_any _ _ _ _ hn0 hn1
  rw [← hcf.out] at hor
  go_wp2_with (go_at_call 38; refine hor.mono ?_; rintro e w' ⟨rfl, rfl⟩)
  go_ret
  exact ⟨rfl, 1, _, by rw [alloc_eq_grow]; rfl⟩

theorem Pl.len {B : Nat} {w : World} {qb bm : Nat} {tn : Int} {v : Value} {H : List Nd} (h : Pl B w qb tn bm v H) (hn : 0 < H.length) : ∃ g cap, v = .slice (some ⟨g, 0, none⟩) H.length cap ∧ H.length ≤ cap := by
  rcases h.row.2 with ⟨_, h0⟩ | ⟨g, cap, cur, hv, _, _, h1, _⟩
  · omega
  · exact ⟨g, cap, hv, h1⟩
theorem ptrs_get {H : List Nd} {k : Nat} (hk : k < H.length) : (ptrs H)[k]? = some (ptV (nd H k).b) := by
  simp [ptrs, hk, nd_get hk]
theorem Pl.cell {B : Nat} {w : World} {qb bm : Nat} {tn : Int} {g cap : Nat} {H : List Nd} (h : Pl B w qb tn bm (.slice (some ⟨g, 0, none⟩) H.length cap) H) {k : Nat} (hk : k < H.length) : w.cell? ⟨g, k, none⟩ = some (ptV (nd H k).b) := by
  rw [h.row.cellAt k (by omega), ptrs_get hk]
theorem Pl.slot {B : Nat} {w : World} {qb bm : Nat} {tn : Int} {v : Value} {H : List Nd} (h : Pl B w qb tn bm v H) : w.cell? ⟨qb, 1, none⟩ = some v := (cell_of_row w qb 1 _ _ _ h.que).trans rfl
theorem Pl.slot0 {B : Nat} {w : World} {qb bm : Nat} {tn : Int} {v : Value} {H : List Nd} (h : Pl B w qb tn bm v H) : w.cell? ⟨qb, 0, none⟩ = some (.int .i64 tn) := (cell_of_row w qb 0 _ _ _ h.que).trans rfl
theorem Pl.slot2 {B : Nat} {w : World} {qb bm : Nat} {tn : Int} {v : Value} {H : List Nd} (h : Pl B w qb tn bm v H) : w.cell? ⟨qb, 2, none⟩ = some (.map (some bm)) := (cell_of_row w qb 2 _ _ _ h.que).trans rfl
theorem Pl.qfr {B : Nat} {w : World} {qb bm : Nat} {tn : Int} {v : Value} {H : List Nd} (h : Pl B w qb tn bm v H) (o : Nat) : w.frozen? ⟨qb, o, none⟩ = false := by simp [World.frozen?, h.que]
theorem Pl.lt {B : Nat} {w : World} {qb bm : Nat} {tn : Int} {v : Value} {H : List Nd} (h : Pl B w qb tn bm v H) : qb < w.heap.size := World.block_lt_of_cell? w ⟨qb, 1, none⟩ h.slot
theorem Pl.kept {B : Nat} {w w' : World} {qb bm : Nat} {tn : Int} {v : Value} {H : List Nd} (h : Pl B w qb tn bm v H) (hk : ∀ k, k < w.heap.size → w'.heap[k]? = w.heap[k]?) : Pl B w' qb tn bm v H := by
  refine ⟨⟨h.row.1, ?_⟩, fun k hk' => ?_, h.bas, h.dis, (hk qb h.lt).trans h.que, h.qbs⟩
  · rcases h.row.2 with h0 | ⟨g, cap, cur, hv, hb, hg, r⟩
    · exact Or.inl h0
    · exact Or.inr ⟨g, cap, cur, hv, hb, (hk g (Array.getElem?_eq_some_iff.1 hg).1).trans hg, r⟩
  · have := h.thg k hk'
    rw [hk _ (Array.getElem?_eq_some_iff.1 this).1, this]
theorem Pl.tagq {B : Nat} {w : World} {qb bm : Nat} {tn : Int} {v : Value} {H : List Nd} (h : Pl B w qb tn bm v H) : tagd w qb = true := by simp [tagd, h.que]
theorem Pl.tagt {B : Nat} {w : World} {qb bm : Nat} {tn : Int} {v : Value} {H : List Nd} (h : Pl B w qb tn bm v H) {k : Nat} (hk : k < H.length) : tagd w (nd H k).b = true := by simp [tagd, h.thg k hk, thO]
theorem Pl.gob {B : Nat} {w : World} {qb bm : Nat} {tn : Int} {g n cap : Nat} {H : List Nd} (h : Pl B w qb tn bm (.slice (some ⟨g, 0, none⟩) n cap) H) : ∃ cur, w.heap[g]? = some (.cells cur 60 (0, 0)) ∧ B ≤ g ∧ n = H.length ∧ H.length ≤ cap := by
  rcases h.row.2 with ⟨h0, _⟩ | ⟨g', cap', cur, hv, hB, hg, hn, _⟩
  · simp at h0
  · obtain ⟨rfl, rfl, rfl⟩ : g = g' ∧ n = H.length ∧ cap = cap' := by simpa using hv
    exact ⟨cur, hg, hB, rfl, hn⟩
theorem Pl.tagg {B : Nat} {w : World} {qb bm : Nat} {tn : Int} {g n cap : Nat} {H : List Nd} (h : Pl B w qb tn bm (.slice (some ⟨g, 0, none⟩) n cap) H) : tagd w g = true := by
  obtain ⟨cur, hg, _⟩ := h.gob
  simp [tagd, hg]
theorem Pl.tq {B : Nat} {w : World} {qb bm : Nat} {tn : Int} {v : Value} {H : List Nd} (h : Pl B w qb tn bm v H) {k : Nat} (hk : k < H.length) : (nd H k).b ≠ qb := by
  intro e
  have h1 := h.thg k hk
  rw [e, h.que] at h1
  simp [thO] at h1
theorem Pl.gq {B : Nat} {w : World} {qb bm : Nat} {tn : Int} {g n cap : Nat} {H : List Nd} (h : Pl B w qb tn bm (.slice (some ⟨g, 0, none⟩) n cap) H) : g ≠ qb := by
  intro e
  obtain ⟨cur, hg, _⟩ := h.gob
  rw [e, h.que] at hg
  simp at hg
theorem Pl.gne {B : Nat} {w : World} {qb bm : Nat} {tn : Int} {g n cap : Nat} {H : List Nd} (h : Pl B w qb tn bm (.slice (some ⟨g, 0, none⟩) n cap) H) {k : Nat} (hk : k < H.length) : g ≠ (nd H k).b := by
  intro e
  have h1 := h.thg k hk
  obtain ⟨cur, hg, _⟩ := h.gob
  rw [← e, hg] at h1
  simp [thO] at h1
theorem Pl.base {B : Nat} {w : World} {qb bm : Nat} {tn : Int} {v : Value} {H : List Nd} (h : Pl B w qb tn bm v H) : B ≤ w.heap.size := by have := h.lt; have := h.qbs; omega
theorem Pl.frz {B : Nat} {w : World} {qb bm : Nat} {tn : Int} {g cap : Nat} {H : List Nd} (h : Pl B w qb tn bm (.slice (some ⟨g, 0, none⟩) H.length cap) H) (k : Nat) : w.frozen? ⟨g, k, none⟩ = false := h.row.frozenAt k
theorem th_frozen {w : World} {b k : Nat} {x : Th} (h : w.heap[b]? = some (thO x k)) (o : Nat) : w.frozen? ⟨b, o, none⟩ = false := by
  simp [World.frozen?, h, thO]
theorem th_place {w : World} {b k : Nat} {x : Th} (h : w.heap[b]? = some (thO x k)) (j : Nat) : (w.setCell ⟨b, 3, none⟩ (.int .i64 j)).heap[b]? = some (thO x j) := heap_setCell_same w b 3 _ _ _ h
theorem th_prio {w : World} {b k : Nat} {x : Th} (h : w.heap[b]? = some (thO x k)) (p : Int) : (w.setCell ⟨b, 0, none⟩ (.int .i64 p)).heap[b]? = some (thO ⟨p, x.i, x.t⟩ k) := heap_setCell_same w b 0 _ _ _ h
theorem ptrs_swq (H : List Nd) (i j : Nat) : ptrs (swq H i j) = ((ptrs H).set i (ptV (nd H j).b)).set j (ptV (nd H i).b) := by
  simp [ptrs, swq, List.map_set]

/-- Two have changed their places. -/
theorem Pl.swap {B : Nat} {w : World} {qb bm : Nat} {tn : Int} {g cap : Nat} {H : List Nd} (h : Pl B w qb tn bm (.slice (some ⟨g, 0, none⟩) H.length cap) H) {i j : Nat} (hi : i < H.length) (hj : j < H.length) (hij : i ≠ j) :
    Pl B ((((w.setCell ⟨g, i, none⟩ (ptV (nd H j).b)).setCell ⟨g, j, none⟩ (ptV (nd H i).b)).setCell ⟨(nd H j).b, 3, none⟩ (.int .i64 i)).setCell ⟨(nd H i).b, 3, none⟩ (.int .i64 j)) qb tn bm (.slice (some ⟨g, 0, none⟩) H.length cap) (swq H i j) ∧
    Fq B none w ((((w.setCell ⟨g, i, none⟩ (ptV (nd H j).b)).setCell ⟨g, j, none⟩ (ptV (nd H i).b)).setCell ⟨(nd H j).b, 3, none⟩ (.int .i64 i)).setCell ⟨(nd H i).b, 3, none⟩ (.int .i64 j)) := by
  have gi := h.gne hi
  have gj := h.gne hj
  have hbb : (nd H i).b ≠ (nd H j).b := by
    rcases Nat.lt_or_gt_of_ne hij with hlt | hlt
    · exact h.dis i j hlt hj
    · exact (h.dis j i hlt hi).symm
  have r1 := (h.row.stored i (ptV (nd H j).b)).1
  have r2 := (r1.stored j (ptV (nd H i).b)).1
  have k3 : ((w.setCell ⟨g, i, none⟩ (ptV (nd H j).b)).setCell ⟨g, j, none⟩ (ptV (nd H i).b)).grownBy (((w.setCell ⟨g, i, none⟩ (ptV (nd H j).b)).setCell ⟨g, j, none⟩ (ptV (nd H i).b)).setCell ⟨(nd H j).b, 3, none⟩ (.int .i64 i)) (some (nd H j).b) := ⟨rfl, rfl, rfl, by simp, fun k _ hk => heap_setCell_other _ ⟨_, _, _⟩ k _ (fun e => hk (by simp [e]))⟩
  have r3 := r2.kept k3 (Or.inr (by simp [Value.ownBlock, gj]))
  have k4 : (((w.setCell ⟨g, i, none⟩ (ptV (nd H j).b)).setCell ⟨g, j, none⟩ (ptV (nd H i).b)).setCell ⟨(nd H j).b, 3, none⟩ (.int .i64 i)).grownBy ((((w.setCell ⟨g, i, none⟩ (ptV (nd H j).b)).setCell ⟨g, j, none⟩ (ptV (nd H i).b)).setCell ⟨(nd H j).b, 3, none⟩ (.int .i64 i)).setCell ⟨(nd H i).b, 3, none⟩ (.int .i64 j)) (some (nd H i).b) := ⟨rfl, rfl, rfl, by simp, fun k _ hk => heap_setCell_other _ ⟨_, _, _⟩ k _ (fun e => hk (by simp [e]))⟩
  have r4 := r3.kept k4 (Or.inr (by simp [Value.ownBlock, gi]))
  have oth : ∀ k, k ≠ g → k ≠ (nd H i).b → k ≠ (nd H j).b → ((((w.setCell ⟨g, i, none⟩ (ptV (nd H j).b)).setCell ⟨g, j, none⟩ (ptV (nd H i).b)).setCell ⟨(nd H j).b, 3, none⟩ (.int .i64 i)).setCell ⟨(nd H i).b, 3, none⟩ (.int .i64 j)).heap[k]? = w.heap[k]? := by
    intro k h1 h2 h3
    rw [Below.heap_setCell _ _ _ _ h2, Below.heap_setCell _ _ _ _ h3, Below.heap_setCell _ _ _ _ h1, Below.heap_setCell _ _ _ _ h1]
  have ti : ((((w.setCell ⟨g, i, none⟩ (ptV (nd H j).b)).setCell ⟨g, j, none⟩ (ptV (nd H i).b)).setCell ⟨(nd H j).b, 3, none⟩ (.int .i64 i)).setCell ⟨(nd H i).b, 3, none⟩ (.int .i64 j)).heap[(nd H i).b]? = some (thO (nd H i).x j) := by
    refine th_place (k := i) ?_ j
    rw [Below.heap_setCell _ _ _ _ hbb, Below.heap_setCell _ _ _ _ gi.symm, Below.heap_setCell _ _ _ _ gi.symm]
    exact h.thg i hi
  have tj : ((((w.setCell ⟨g, i, none⟩ (ptV (nd H j).b)).setCell ⟨g, j, none⟩ (ptV (nd H i).b)).setCell ⟨(nd H j).b, 3, none⟩ (.int .i64 i)).setCell ⟨(nd H i).b, 3, none⟩ (.int .i64 j)).heap[(nd H j).b]? = some (thO (nd H j).x i) := by
    rw [Below.heap_setCell _ _ _ _ hbb.symm]
    refine th_place (k := j) ?_ i
    rw [Below.heap_setCell _ _ _ _ gj.symm, Below.heap_setCell _ _ _ _ gj.symm]
    exact h.thg j hj
  have tg := h.tagg
  have tti := h.tagt hi
  have ttj := h.tagt hj
  have hBg : B ≤ g := by obtain ⟨_, _, hb, _⟩ := h.gob; exact hb
  refine ⟨⟨?_, ?_, ?_, ?_, ?_, h.qbs⟩, ⟨rfl, rfl, rfl, by simp, ?_, ?_⟩⟩
  · rw [swq_len, ptrs_swq]; exact r4
  · intro k hk
    rw [swq_len] at hk
    rw [nd_swq hi hj]
    split
    · rename_i e; subst e; exact ti
    · split
      · rename_i e1 e; subst e; exact tj
      · rename_i e1 e2
        rw [oth _ (h.gne hk).symm ?_ ?_]
        · exact h.thg k hk
        · rcases Nat.lt_or_gt_of_ne e2 with hlt | hlt
          · exact h.dis k i hlt hi
          · exact (h.dis i k hlt hk).symm
        · rcases Nat.lt_or_gt_of_ne e1 with hlt | hlt
          · exact h.dis k j hlt hj
          · exact (h.dis j k hlt hk).symm
  · intro k hk
    rw [swq_len] at hk
    rw [nd_swq hi hj]
    split
    · exact h.bas i hi
    · split
      · exact h.bas j hj
      · exact h.bas k hk
  · have hall : ∀ k l, k ≠ l → k < H.length → l < H.length → (nd H k).b ≠ (nd H l).b := by
      intro k l hne hk hl
      rcases Nat.lt_or_gt_of_ne hne with hlt | hlt
      · exact h.dis k l hlt hl
      · exact (h.dis l k hlt hk).symm
    intro k l hkl hl
    rw [swq_len] at hl
    rw [nd_swq hi hj, nd_swq hi hj]
    by_cases a1 : k = j
    · subst a1
      rw [if_pos rfl, if_neg (by omega)]
      by_cases a2 : l = i
      · subst a2; rw [if_pos rfl]; exact hall _ _ (by omega) hi hj
      · rw [if_neg a2]; exact hall _ _ (fun e => a2 e.symm) hi hl
    · rw [if_neg a1]
      by_cases a2 : k = i
      · subst a2
        rw [if_pos rfl]
        by_cases a3 : l = j
        · subst a3; rw [if_pos rfl]; exact hall _ _ (fun e => hij e.symm) hj hi
        · rw [if_neg a3, if_neg (by omega)]; exact hall _ _ (fun e => a3 e.symm) hj hl
      · rw [if_neg a2]
        by_cases a3 : l = j
        · subst a3; rw [if_pos rfl]; exact hall _ _ a2 (by omega) hi
        · rw [if_neg a3]
          by_cases a4 : l = i
          · subst a4; rw [if_pos rfl]; exact hall _ _ a1 (by omega) hj
          · rw [if_neg a4]; exact hall _ _ (by omega) (by omega) hl
  · rw [oth _ h.gq.symm (h.tq hi).symm (h.tq hj).symm]; exact h.que
  · intro k hk
    exact oth k (by omega) (by have := h.bas i hi; omega) (by have := h.bas j hj; omega)
  · intro k hk _ ht
    exact oth k (fun e => by subst e; rw [tg] at ht; cases ht) (fun e => by subst e; rw [tti] at ht; cases ht) (fun e => by subst e; rw [ttj] at ht; cases ht)

theorem kept_grow (w : World) (q : Nat) (os : Array Obj) : ∀ k, k < w.heap.size → (grow (w.drewN q) os).heap[k]? = w.heap[k]? := fun _ hk => heap_grow_old _ _ hk

theorem cfQ_lt (x y : Th) : decide (cfQ x y < 0) = ltQ x y := by
  unfold cfQ cmpI ltQ
  rw [decide_eq_decide]
  repeat (first | omega | split)

set_option maxRecDepth 100000 in
theorem less_any {B : Nat} {w : World} {qb bm : Nat} {tn : Int} {g cap : Nat} {H : List Nd} (h : Pl B w qb tn bm (.slice (some ⟨g, 0, none⟩) H.length cap) H) {i j : Nat} (hi : i < H.length) (hj : j < H.length) :
    Calls Try.prog 77 #[.slice (some ⟨g, 0, none⟩) H.length cap, .int .i64 i, .int .i64 j] w fun e w' => e = .returned (.bool (ltQ (fx H i) (fx H j))) ∧ ∃ q os', w' = grow (w.drewN q) os' := by
  have ci := h.cell hi
  have cj := h.cell hj
  have ho : ∀ W : World, W.heap = w.heap → Calls Try.prog 32 #[ptV (nd H i).b, ptV (nd H j).b] W fun e w' => e = .returned (.int .i64 (cfQ (nd H i).x (nd H j).x)) ∧ ∃ q os', w' = grow (W.drewN q) os' := fun W e => order_any (w := W) (by rw [e]; exact h.thg i hi) (by rw [e]; exact h.thg j hj)
  have hr : ltQ (fx H i) (fx H j) = decide (cfQ (nd H i).x (nd H j).x < 0) := (cfQ_lt _ _).symm
  rw [hr]
  generalize cfQ (nd H i).x (nd H j).x = r at *
  have hi' : (i : Int) < (H.length : Int) := by omega
  have hj' : (j : Int) < (H.length : Int) := by omega
  unfold ptV at ci cj ho
  generalize (nd H i).b = bi at *
  generalize (nd H j).b = bj at *
  clear h hr
  go_enter Try.func77, Try.ntmps77
  go_wp2
  refine wp_region_still_tail 8 (by kernel_rfl) (by kernel_rfl) ?_
  simp only [List.take_succ_cons, List.take_zero, List.drop_succ_cons, List.drop_zero]
  repeat still_step
  refine wpStill_nil ?_
  change wpList _ _ _ _ _ (World.drew w)
  clear ci cj
  go_wp2_with (go_at_call 32; refine (ho (World.drew w) rfl).mono ?_; rintro e w' ⟨rfl, q, os, rfl⟩)
  go_ret
  exact ⟨by rfl, 1 + q, os, rfl⟩

theorem len_any (p : Option Addr) (n cap : Nat) (w : World) : Calls Try.prog 76 #[.slice p n cap] w fun e w' => e = .returned (.int .i64 n) ∧ w' = w := by
  go_enter Try.func76, Try.ntmps76
  go_wp2
  go_ret
  exact ⟨rfl, rfl⟩

set_option maxRecDepth 100000 in
theorem swap_any {B : Nat} {w : World} {qb bm : Nat} {tn : Int} {g cap : Nat} {H : List Nd} (h : Pl B w qb tn bm (.slice (some ⟨g, 0, none⟩) H.length cap) H) {i j : Nat} (hi : i < H.length) (hj : j < H.length) (hij : i ≠ j) :
    Calls Try.prog 78 #[.slice (some ⟨g, 0, none⟩) H.length cap, .int .i64 i, .int .i64 j] w fun e w' => e = .returned (.tuple #[]) ∧ Pl B w' qb tn bm (.slice (some ⟨g, 0, none⟩) H.length cap) (swq H i j) ∧ Fq B none w w' := by
  have ci := h.cell hi
  have cj := h.cell hj
  have fi := h.frz i
  have fj := h.frz j
  have gi := h.gne hi
  have gj := h.gne hj
  have di := (th_cells (h.thg i hi)).2.2.2
  have dj := (th_cells (h.thg j hj)).2.2.2
  have ei := th_frozen (h.thg i hi) 3
  have ej := th_frozen (h.thg j hj) 3
  have hi' : (i : Int) < (H.length : Int) := by omega
  have hj' : (j : Int) < (H.length : Int) := by omega
  have hbb : (nd H i).b ≠ (nd H j).b := by
    rcases Nat.lt_or_gt_of_ne hij with hlt | hlt
    · exact h.dis i j hlt hj
    · exact (h.dis j i hlt hi).symm
  have hS : Hid _ := h.swap hi hj hij
  unfold ptV at ci cj hS
  generalize (nd H i).b = bi at *
  generalize (nd H j).b = bj at *
  clear h
  go_enter Try.func78, Try.ntmps78
  go_wp2
  go_region
  go_wp2
  go_region
  go_wp2
  go_end0
  obtain ⟨h1, h2⟩ := hS.out
  exact ⟨rfl, h1.kept fun _ _ => rfl, (h2.trans (Fq.drew _ _ _)).trans (Fq.drew _ _ _)⟩

end Go.Proofs.Ythkhlgannimebaa
