/- Close, walked; slices.Equal, Index, Contains at rows of edges. -/
import Derived.Test.YtncjnmlgkhngaaaDoorGct
namespace Go.Proofs.YtncjnmlgkhngaaaDoor
open Go.RowKit Gm
set_option linter.unusedSectionVars false

def ce (n : Int) (l : List Ed) : Int := if chk n l = 0 then (if 400 < nE (wB l) 60 then 2 else 0) else chk n l
def cl (n : Int) (l : List Ed) : List Ed := if chk n l = 0 ∧ nE (wB l) 60 ≤ 400 then eL (wB l) 60 else []

theorem below_arr {B : Nat} {w w2 w4 : World} {cs cs' : Array Value} {t : TypeId} (h : Below B w w2) (hb4 : Below ((w2.alloc (.cells cs t)).setRow w2.heap.size cs').heap.size ((w2.alloc (.cells cs t)).setRow w2.heap.size cs') w4) (hs : B ≤ w2.heap.size) : Below B w w4 := by
  have hB3 : Below B w ((w2.alloc (.cells cs t)).setRow w2.heap.size cs') := below_row (h.alloc hs _) hs
  exact hB3.trans (hb4.mono (by simp [World.setRow]; omega))
theorem arr_kept {w2 w4 : World} {cs cs' : Array Value} {t : TypeId} (hb4 : Below ((w2.alloc (.cells cs t)).setRow w2.heap.size cs').heap.size ((w2.alloc (.cells cs t)).setRow w2.heap.size cs') w4) : w4.heap[w2.heap.size]? = some (.cells cs' t (0, 0)) :=
  (hb4.block _ (by simp [World.setRow])).trans (setRow_heap _ _ _ _ _ _ (heap_alloc_new w2 _))
theorem close_bad {n : Int} {w : World} {q : Option Addr} {l : List Ed} {cap : Nat} (h : Eds w q l) (hne : chk n l ≠ 0) :
    Calls Tryd.prog 19 #[.int .i64 n, .slice q l.length cap] w fun e w' => e = .returned (.tuple #[.slice none 0 0, .int .i64 (chk n l)]) ∧ Below w.heap.size w w' := by
  have hc := check_any (cap := cap) n h
  generalize chk n l = ev at *
  clear h
  go_enter Tryd.func19, Tryd.ntmps19
  go_wp2_with (first | (go_at_call 13; refine hc.mono ?_; rintro e w1 ⟨rfl, hb1⟩; clear hc) | go_in)
  go_ret2
  exact ⟨rfl, hb1⟩

set_option maxHeartbeats 1000000 in
set_option maxRecDepth 100000 in
theorem close_ok {n : Int} {w : World} {q : Option Addr} {l : List Ed} {cap : Nat} (h : Eds w q l) (hZ : TabZ w) (h0 : chk n l = 0) :
    Calls Tryd.prog 19 #[.int .i64 n, .slice q l.length cap] w fun e w' => ∃ (p : Option Addr) (c : Nat), e = .returned (.tuple #[.slice p (cl n l).length c, .int .i64 (ce n l)]) ∧ w'.ownsRow w.heap.size 41 2 (.slice p (cl n l).length c) (cl n l).length (flatE (cl n l)) ∧ Below w.heap.size w w' := by
  have hc := check_any (cap := cap) n h
  rw [h0] at hc
  have hw : Hid (∀ w1, Below w.heap.size w w1 → Calls Tryd.prog 41 #[.slice q l.length cap] w1 fun e w' => e = .returned (.agg (lk (wB l))) ∧ Below w1.heap.size w1 w') := fun w1 hb => ways_any (h.below hb (Nat.le_refl _)) (chk_60 h0) (chk_ok h0).2.2.1
  have hZb : Hid (∀ w1, Below w.heap.size w w1 → TabZ w1) := fun w1 hb => hZ.below hb (Nat.le_refl _)
  have hct : Hid (∀ w1, _) := fun w1 => count_any (wB l) w1
  have hed : Hid (∀ w1, Below w.heap.size w w1 → _) := fun w1 hb => edges_any (wB l) w1 (hZb.out w1 hb)
  have hsz := lk_size (wB l)
  by_cases hbig : 400 < nE (wB l) 60
  · have e1 : cl n l = [] := by rw [cl, if_neg (by omega)]
    have e2 : ce n l = 2 := by rw [ce, if_pos h0, if_pos hbig]
    rw [e1, e2]
    have hbi : (400 : Int) < ((nE (wB l) 60 : Nat) : Int) := by omega
    generalize nE (wB l) 60 = N at *
    clear h h0 hZ hed e1 e2
    go_enter Tryd.func19, Tryd.ntmps19
    go_wp2_with (first
      | (go_at_call 13; refine hc.mono ?_; rintro e w1 ⟨rfl, hb1⟩; have hway := hw.out w1 hb1; clear hc hw)
      | (go_at_call 41; refine hway.mono ?_; rintro e w2 ⟨rfl, hb2⟩; have hB2 : Below w.heap.size w w2 := hb1.trans (hb2.mono hb1.size); clear hway)
      | (refine wpList_store_row rfl 63 _ _ rfl _ (lk (wB l)) rfl rfl _ _ (heap_alloc_new _ _) (lk_info _) (by rw [lk_size]; rfl) (lk_one _) ?_)
      | (refine wpList_load_row rfl 63 _ rfl _ rfl _ _ _ _ (setRow_heap _ _ _ _ _ _ (heap_alloc_new _ _)) Tryd.underlying63 rfl (lk_info _) ?_)
      | (go_at_call 45; refine (hct.out _).mono ?_; rintro e w4 ⟨rfl, hb4⟩; have hB4 : Below w.heap.size w w4 := below_arr hB2 hb4 hB2.size; clear hct hb4)
      | go_in)
    go_ret2
    exact ⟨none, 0, rfl, World.ownsRow_nil _ _ _ _, hB4⟩
  · have e1 : cl n l = eL (wB l) 60 := by rw [cl, if_pos ⟨h0, by omega⟩]
    have e2 : ce n l = 0 := by rw [ce, if_pos h0, if_neg hbig]
    rw [e1, e2, eL_len]
    have hbi : ¬ (400 : Int) < ((nE (wB l) 60 : Nat) : Int) := by omega
    generalize nE (wB l) 60 = N at *
    generalize flatE (eL (wB l) 60) = xs at *
    clear h h0 hZ e1 e2
    go_enter Tryd.func19, Tryd.ntmps19
    go_wp2_with (first
      | (go_at_call 13; refine hc.mono ?_; rintro e w1 ⟨rfl, hb1⟩; have hway := hw.out w1 hb1; clear hc hw)
      | (go_at_call 41; refine hway.mono ?_; rintro e w2 ⟨rfl, hb2⟩; have hB2 : Below w.heap.size w w2 := hb1.trans (hb2.mono hb1.size); clear hway)
      | (refine wpList_store_row rfl 63 _ _ rfl _ (lk (wB l)) rfl rfl _ _ (heap_alloc_new _ _) (lk_info _) (by rw [lk_size]; rfl) (lk_one _) ?_)
      | (refine wpList_load_row rfl 63 _ rfl _ rfl _ _ _ _ (setRow_heap _ _ _ _ _ _ (heap_alloc_new _ _)) Tryd.underlying63 rfl (lk_info _) ?_)
      | (refine wpList_load_row rfl 63 _ rfl _ rfl _ _ _ _ hk4 Tryd.underlying63 rfl (lk_info _) ?_)
      | (go_at_call 45; refine (hct.out _).mono ?_; rintro e w4 ⟨rfl, hb4⟩; have hB4 : Below w.heap.size w w4 := below_arr hB2 hb4 hB2.size; have hk4 : w4.heap[w2.heap.size]? = some (.cells (lk (wB l)) 63 (0, 0)) := arr_kept hb4; clear hct hb4)
      | (go_at_call 46; refine (hed.out w4 hB4).mono ?_; rintro e w5 ⟨p5, c5, rfl, hr5, hb5⟩; clear hed)
      | go_in)
    go_ret2
    exact ⟨p5, c5, rfl, owns_base' hr5 hB4.size, hB4.trans (hb5.mono hB4.size)⟩
theorem close_e {n : Int} {w : World} {q : Option Addr} {l : List Ed} {cap : Nat} (h : Eds w q l) (hZ : TabZ w) :
    Calls Tryd.prog 19 #[.int .i64 n, .slice q l.length cap] w fun e w' => ∃ (p : Option Addr) (c : Nat), e = .returned (.tuple #[.slice p (cl n l).length c, .int .i64 (ce n l)]) ∧ w'.ownsRow w.heap.size 41 2 (.slice p (cl n l).length c) (cl n l).length (flatE (cl n l)) ∧ Below w.heap.size w w' := by
  by_cases h0 : chk n l = 0
  · exact close_ok h hZ h0
  · refine (close_bad h h0).mono ?_
    rintro e w' ⟨rfl, hb⟩
    have e1 : cl n l = [] := by rw [cl, if_neg (fun x => h0 x.1)]
    have e2 : ce n l = chk n l := by rw [ce, if_neg h0]
    rw [e1, e2]
    exact ⟨none, 0, rfl, World.ownsRow_nil _ _ _ _, hb⟩

theorem eqlE (a i b j : Int) (w : World) : (binOp .eql 41 (.agg #[.int .i64 a, .int .i64 i]) (.agg #[.int .i64 b, .int .i64 j])).run Tryd.prog w = .ok (.bool (decide (a = b) && decide (i = j))) w := by
  have u3 := Tryd.underlying3
  have a3 := Tryd.isAgg3
  have z3 := Tryd.sizeOf3
  have hS : Tryd.prog.underlying 41 = some (.struct (Tryd.prog.fieldsOf 41)) := by kernel_rfl
  have hp : Tryd.prog.stoodInHeld 41 = false := by kernel_rfl
  rw [run_eql_struct, show (10000 : Nat) = 9999 + 1 from rfl, run_equalIn_agg w 9999 41 _ _ hS hp]
  simp only [Program.fieldsOf, Tryd.underlying41]
  by_cases h1 : a = b <;> by_cases h2 : i = j <;> simp only [h1, h2] <;> go_simp
theorem neqE (a i : Int) (w : World) : (binOp .neq 41 (.agg #[.int .i64 a, .int .i64 i]) (.agg #[.int .i64 a, .int .i64 i])).run Tryd.prog w = .ok (.bool false) w := by
  have u3 := Tryd.underlying3
  have a3 := Tryd.isAgg3
  have z3 := Tryd.sizeOf3
  have hS : Tryd.prog.underlying 41 = some (.struct (Tryd.prog.fieldsOf 41)) := by kernel_rfl
  have hp : Tryd.prog.stoodInHeld 41 = false := by kernel_rfl
  rw [run_neq_struct, show (10000 : Nat) = 9999 + 1 from rfl, run_equalIn_agg w 9999 41 _ _ hS hp]
  simp only [Program.fieldsOf, Tryd.underlying41]
  go_simp
theorem drewN_below {B : Nat} {w wz : World} (h : Below B w wz) (q : Nat) : Below B w (wz.drewN q) := ⟨h.os, h.tape, h.output, h.size, h.block⟩
theorem row_ed {w : World} {B : Nat} {p : Option Addr} {L : List Ed} {n c : Nat} (h : w.ownsRow B 41 2 (.slice p n c) n (flatE L)) (hn : L.length = n) {k : Nat} (hk : k < n) : ∃ g, p = some ⟨g, 0, none⟩ ∧ w.cell? ⟨g, k * 2, none⟩ = some (.int .i64 (ed L k).f) ∧ w.cell? ⟨g, k * 2 + 1, none⟩ = some (.int .i64 (ed L k).t) := by
  rcases h.2 with ⟨_, h0⟩ | ⟨g, cap, cur, hv, hB, _⟩
  · omega
  · obtain ⟨rfl, rfl⟩ : p = some ⟨g, 0, none⟩ ∧ c = cap := by simpa using hv
    have hk' : k < L.length := by omega
    exact ⟨g, rfl, by rw [h.cellAt (k * 2) (by omega), (flatE_get hk').1], by rw [h.cellAt (k * 2 + 1) (by omega), (flatE_get hk').2]⟩

set_option maxHeartbeats 1000000 in
set_option maxRecDepth 100000 in
theorem equal_e {w : World} {F : List Ed} {n : Nat} {p1 p2 : Option Addr} {c1 c2 B1 B2 : Nat} (hF : F.length = n) (h1 : w.ownsRow B1 41 2 (.slice p1 n c1) n (flatE F)) (h2 : w.ownsRow B2 41 2 (.slice p2 n c2) n (flatE F)) (hlen : n ≤ 4000) :
    Calls Tryd.prog 22 #[.slice p1 n c1, .slice p2 n c2] w fun e w' => e = .returned (.bool true) ∧ Below w.heap.size w w' := by
  have hlen' : Hid (n ≤ 4000) := hlen
  have hFH : Hid (F.length = n) := hF
  have hnf := neqE
  clear hlen hF
  go_enter Tryd.func22, Tryd.ntmps22
  go_wp2
  go_loopw [13] (fun iv wr => ∃ j : Nat, iv = .int .i64 j ∧ j ≤ n ∧ Below w.heap.size w wr)
    (fun iv _ => n - (intOf iv).toNat)
  case atStart => exact ⟨0, rfl, Nat.zero_le _, Below.refl _ _⟩
  case round =>
    obtain ⟨j, rfl, hjl, hbl⟩ := hrel
    have r1 := row_below h1 hbl
    have r2 := row_below h2 hbl
    by_cases hj : j < n
    · obtain ⟨g, rfl, z0, z1⟩ := row_ed r1 hFH.out hj
      obtain ⟨g2, rfl, y0, y1⟩ := row_ed r2 hFH.out hj
      clear r1 r2 h1 h2
      generalize ed F j = x at *
      have hji : (j : Int) < (n : Int) := by omega
      go_wp2
      go_quiet (fail)
      go_wp2
      have hj2 : j ≤ 100000 := Nat.le_trans hjl (Nat.le_trans hlen'.out (by decide))
      refine ⟨⟨j + 1, ?_, hj, drewN_below hbl nq⟩, ?_⟩
      · first | exact int_wsucc hj2 | exact int_succ j
      · first | exact meas_w hj hj2 | exact meas_1 hj
    · have hji : ¬ (j : Int) < (n : Int) := by omega
      clear r1 r2 h1 h2
      go_wp2
      go_ret
      exact ⟨rfl, hbl⟩

set_option maxHeartbeats 1000000 in
set_option maxRecDepth 100000 in
theorem index_e {w : World} {L : List Ed} {n : Nat} {p : Option Addr} {c B : Nat} (x y : Int) (hL : L.length = n) (h : w.ownsRow B 41 2 (.slice p n c) n (flatE L)) (hlen : n ≤ 4000) :
    Calls Tryd.prog 48 #[.slice p n c, .agg #[.int .i64 x, .int .i64 y]] w fun e w' => (∃ z : Int, e = .returned (.int .i64 z) ∧ (0 ≤ z ↔ (⟨x, y⟩ : Ed) ∈ L)) ∧ Below w.heap.size w w' := by
  have hLH : Hid (L.length = n) := hL
  have hlen' : Hid (n ≤ 4000) := hlen
  have heq := eqlE
  have hn := heap_alloc_new w (.cells #[.int .i64 x, .int .i64 y] 41)
  have hb0 : Hid (Below w.heap.size w (w.alloc (.cells #[.int .i64 x, .int .i64 y] 41))) := (Below.refl _ _).alloc (Nat.le_refl _) _
  have hsw : Hid (w.heap.size < (w.alloc (.cells #[.int .i64 x, .int .i64 y] 41)).heap.size) := by show _ < _; simp
  have hA := h.alloc (.cells #[.int .i64 x, .int .i64 y] 41)
  clear hL hlen h
  go_enter Tryd.func48, Tryd.ntmps48
  go_wp2
  generalize w.alloc (.cells #[.int .i64 x, .int .i64 y] 41) = wa at *
  generalize hbx : w.heap.size = bx at *
  have hbxH : Hid (w.heap.size = bx) := hbx
  clear hbx
  go_loopw [8] (fun iv wr => ∃ k : Nat, iv = .int .i64 k ∧ k ≤ n ∧ (∀ j, j < k → ed L j ≠ ⟨x, y⟩) ∧ Below wa.heap.size wa wr)
    (fun iv _ => n - (intOf iv).toNat)
  case atStart => exact ⟨0, rfl, Nat.zero_le _, fun j hj => absurd hj (by omega), Below.refl _ _⟩
  case round =>
    obtain ⟨k, rfl, hkn, hno, hbl⟩ := hrel
    have hnoH : Hid (∀ j, j < k → ed L j ≠ ⟨x, y⟩) := hno
    have hblH : Hid (Below wa.heap.size wa wr) := hbl
    have hnr : wr.heap[bx]? = some (.cells #[.int .i64 x, .int .i64 y] 41 (0, 0)) := (hbl.block _ hsw.out).trans hn
    have x0 : wr.cell? ⟨bx, 0, none⟩ = some (.int .i64 x) := (cell_of_row _ _ 0 _ _ _ hnr).trans rfl
    have x1 : wr.cell? ⟨bx, 1, none⟩ = some (.int .i64 y) := (cell_of_row _ _ 1 _ _ _ hnr).trans rfl
    have r1 := row_below hA hbl
    clear hno hbl hnr
    by_cases hk : k < n
    · obtain ⟨g, rfl, z0, z1⟩ := row_ed r1 hLH.out hk
      have hki : (k : Int) < (n : Int) := by omega
      have hk2 : Hid (k ≤ 100000) := by have := hlen'.out; show _ ≤ _; omega
      have hmem : Hid (ed L k ∈ L) := ed_mem (by have := hLH.out; omega)
      generalize hu : ed L k = u at *
      have huH : Hid (ed L k = u) := hu
      clear hu r1 hA hn
      by_cases hv : x = u.f ∧ y = u.t
      · obtain ⟨rfl, rfl⟩ := hv
        go_wp2
        go_quiet (fail)
        go_wp2
        go_ret
        exact ⟨⟨_, rfl, fun _ => hmem.out, fun _ => by omega⟩, by rw [hbxH.out]; exact drewN_below (hb0.out.trans (hblH.out.mono (Nat.le_of_lt hsw.out))) nq⟩
      · have hd : (decide (x = u.f) && decide (y = u.t)) = false := by
          rw [← Bool.decide_and]
          exact decide_eq_false hv
        have hvH : Hid (¬ (x = u.f ∧ y = u.t)) := hv
        clear hv
        go_wp2
        go_quiet (fail)
        go_wp2
        refine ⟨⟨k + 1, ?_, hk, fun j hj => ?_, drewN_below hblH.out nq⟩, ?_⟩
        · first | exact int_succ k | exact int_wsucc hk2.out
        · by_cases e : j = k
          · subst e; rw [huH.out]; intro e; rw [e] at hvH; exact hvH.out ⟨rfl, rfl⟩
          · exact hnoH.out j (by omega)
        · first | exact meas_1 hk | exact meas_w hk hk2.out
    · have hki : ¬ (k : Int) < (n : Int) := by omega
      clear r1 hA hn x0 x1
      go_wp2
      go_ret
      refine ⟨⟨_, rfl, fun h => absurd h (by omega), ?_⟩, by rw [hbxH.out]; exact hb0.out.trans (hblH.out.mono (Nat.le_of_lt hsw.out))⟩
      intro hj
      obtain ⟨a, ha, ea⟩ := List.getElem_of_mem hj
      have := hnoH.out a (by have := hLH.out; omega)
      rw [ed_get ha, ea] at this
      exact absurd rfl this

set_option maxRecDepth 100000 in
theorem contains_e {w : World} {L : List Ed} {n : Nat} {p : Option Addr} {c B : Nat} (x y : Int) (hL : L.length = n) (h : w.ownsRow B 41 2 (.slice p n c) n (flatE L)) (hlen : n ≤ 4000) :
    Calls Tryd.prog 25 #[.slice p n c, .agg #[.int .i64 x, .int .i64 y]] w fun e w' => (∃ z : Bool, e = .returned (.bool z) ∧ (z = true ↔ (⟨x, y⟩ : Ed) ∈ L)) ∧ Below w.heap.size w w' := by
  have hb0 : Hid (Below w.heap.size w (w.alloc (.cells #[.int .i64 x, .int .i64 y] 41))) := (Below.refl _ _).alloc (Nat.le_refl _) _
  have hi := index_e x y hL (h.alloc (.cells #[.int .i64 x, .int .i64 y] 41)) hlen
  clear h hL hlen
  go_enter Tryd.func25, Tryd.ntmps25
  go_wp2_with (first | (go_at_call 48; refine hi.mono ?_; rintro e w2 ⟨⟨z, rfl, hz⟩, hb2⟩; have hzH : Hid (0 ≤ z ↔ (⟨x, y⟩ : Ed) ∈ L) := hz; clear hz) | go_in)
  go_ret
  exact ⟨⟨_, rfl, by rw [← hzH.out]; simp⟩, hb0.out.trans (hb2.mono hb0.out.size)⟩
end Go.Proofs.YtncjnmlgkhngaaaDoor
