/- Knot and Reach, walked. -/
import Derived.Test.YtncjnmlgkhngaaaDoorGk
namespace Go.Proofs.YtncjnmlgkhngaaaDoor
open Go.RowKit Gm
set_option linter.unusedSectionVars false

theorem chk_ok {n : Int} {l : List Ed} (h : chk n l = 0) : 0 ≤ n ∧ n ≤ 60 ∧ l.length ≤ 400 ∧ (∀ e ∈ l, 0 ≤ e.f ∧ e.f < n ∧ 0 ≤ e.t ∧ e.t < n) := by
  unfold chk at h
  split at h
  · cases h
  · split at h
    · cases h
    · split at h
      · rename_i h1 h2 h3
        refine ⟨by omega, by omega, by omega, fun e he => ?_⟩
        have := List.all_eq_true.1 h3 e he
        simpa [okI] using this
      · cases h
theorem chk_60 {n : Int} {l : List Ed} (h : chk n l = 0) : ∀ e ∈ l, 0 ≤ e.f ∧ e.f < 60 ∧ 0 ≤ e.t ∧ e.t < 60 := fun e he => by
  obtain ⟨_, h1, _, h2⟩ := chk_ok h
  have := h2 e he
  omega
theorem chk_gr {n : Int} {l : List Ed} (h : chk n l = 0) : Gr n.toNat l := by
  obtain ⟨h0, h1, _, h2⟩ := chk_ok h
  exact ⟨by omega, fun e he => by have := h2 e he; omega⟩

set_option maxRecDepth 100000 in
theorem knot_bad {n : Int} {w : World} {q : Option Addr} {l : List Ed} {cap : Nat} (h : Eds w q l) (hne : chk n l ≠ 0) :
    Calls Tryd.prog 10 #[.int .i64 n, .slice q l.length cap] w fun e w' => e = .returned (.tuple #[.slice none 0 0, .int .i64 (chk n l)]) ∧ Below w.heap.size w w' := by
  have hc := check_any (cap := cap) n h
  generalize chk n l = ev at *
  clear h
  go_enter Tryd.func10, Tryd.ntmps10
  go_wp2_with (first | (go_at_call 13; refine hc.mono ?_; rintro e w1 ⟨rfl, hb1⟩; clear hc) | go_in)
  go_ret2
  exact ⟨rfl, hb1⟩

set_option maxRecDepth 100000 in
theorem knot_ok {n : Int} {w : World} {q : Option Addr} {l : List Ed} {cap : Nat} (h : Eds w q l) (hZ : TabZ w) (h0 : chk n l = 0) :
    Calls Tryd.prog 10 #[.int .i64 n, .slice q l.length cap] w fun e w' => ∃ (p : Option Addr) (c : Nat), e = .returned (.tuple #[.slice p (bl (fun i => wB l i i) 60).length c, .int .i64 0]) ∧ w'.ownsRow w.heap.size 3 1 (.slice p (bl (fun i => wB l i i) 60).length c) (bl (fun i => wB l i i) 60).length (ints (bl (fun i => wB l i i) 60)) ∧ Below w.heap.size w w' := by
  have hc := check_any (cap := cap) n h
  rw [h0] at hc
  have hw : Hid (∀ w1, Below w.heap.size w w1 → Calls Tryd.prog 41 #[.slice q l.length cap] w1 fun e w' => e = .returned (.agg (lk (wB l))) ∧ Below w1.heap.size w1 w') := fun w1 hb => ways_any (h.below hb (Nat.le_refl _)) (chk_60 h0) (chk_ok h0).2.2.1
  have hZb : Hid (∀ w1, Below w.heap.size w w1 → TabZ w1) := fun w1 hb => hZ.below hb (Nat.le_refl _)
  clear h h0 hZ
  go_enter Tryd.func10, Tryd.ntmps10
  go_wp2_with (first
    | (go_at_call 13; refine hc.mono ?_; rintro e w1 ⟨rfl, hb1⟩; have hway := hw.out w1 hb1; clear hc hw)
    | (go_at_call 41; refine hway.mono ?_; rintro e w2 ⟨rfl, hb2⟩; have hB2 : Below w.heap.size w w2 := hb1.trans (hb2.mono hb1.size); have hkn := knotS_any (wB l) w2; clear hway)
    | (go_at_call 42; refine hkn.mono ?_; rintro e w3 ⟨rfl, hb3⟩; have hB3 : Below w.heap.size w w3 := hB2.trans (hb3.mono hB2.size); have hls := list_any (fun i => wB l i i) w3 (hZb.out w3 hB3); clear hkn)
    | (go_at_call 43; refine hls.mono ?_; rintro e w4 ⟨p4, c4, rfl, hr4, hb4⟩; clear hls)
    | go_in)
  go_ret2
  exact ⟨p4, c4, rfl, ⟨hr4.1, hr4.2.imp id fun ⟨g, cap, cur, hv, hb, r⟩ => ⟨g, cap, cur, hv, Nat.le_trans hB3.size hb, r⟩⟩, hB3.trans (hb4.mono hB3.size)⟩

set_option maxRecDepth 100000 in
theorem reach_bad {n from_ : Int} {w : World} {q : Option Addr} {l : List Ed} {cap : Nat} (h : Eds w q l) (hne : chk n l ≠ 0) :
    Calls Tryd.prog 11 #[.int .i64 n, .slice q l.length cap, .int .i64 from_] w fun e w' => e = .returned (.tuple #[.slice none 0 0, .int .i64 (chk n l)]) ∧ Below w.heap.size w w' := by
  have hc := check_any (cap := cap) n h
  generalize chk n l = ev at *
  clear h
  go_enter Tryd.func11, Tryd.ntmps11
  go_wp2_with (first | (go_at_call 13; refine hc.mono ?_; rintro e w1 ⟨rfl, hb1⟩; clear hc) | go_in)
  go_ret2
  exact ⟨rfl, hb1⟩

set_option maxRecDepth 100000 in
theorem reach_out {n from_ : Int} {w : World} {q : Option Addr} {l : List Ed} {cap : Nat} (h : Eds w q l) (h0 : chk n l = 0) (hf : from_ < 0 ∨ n ≤ from_) :
    Calls Tryd.prog 11 #[.int .i64 n, .slice q l.length cap, .int .i64 from_] w fun e w' => e = .returned (.tuple #[.slice none 0 0, .int .i64 4]) ∧ Below w.heap.size w w' := by
  have hc := check_any (cap := cap) n h
  rw [h0] at hc
  have ht := fun w => thing_no n from_ w hf
  clear h h0 hf
  go_enter Tryd.func11, Tryd.ntmps11
  go_wp2_with (first
    | (go_at_call 13; refine hc.mono ?_; rintro e w1 ⟨rfl, hb1⟩; clear hc)
    | (go_at_call 44; refine (ht _).mono ?_; rintro e w' ⟨rfl, hw'⟩; have hw'' := hw'.symm; subst hw''; clear ht)
    | go_in)
  go_ret2
  exact ⟨rfl, hb1⟩

theorem run_index_lk (r : Nat → Nat → Bool) {F : Nat} (hF : F < 60) (w : World) : (Instr.index 63 (.agg (lk r)) (.int .i64 (F : Int))).run Tryd.prog w = .ok (.int .u64 ((bs (r F) 60 : Nat) : Int)) w := by
  have u := Tryd.underlying63
  have z := Tryd.sizeOf61
  have a := Tryd.isAgg61
  have hg := lk_get r hF
  simp [Instr.index, run_underlying u, asIntOf, part, z, a, hg, go_sem]
  intro h
  omega

set_option maxRecDepth 100000 in
theorem reach_ok {n : Int} {F : Nat} {w : World} {q : Option Addr} {l : List Ed} {cap : Nat} (h : Eds w q l) (hZ : TabZ w) (h0 : chk n l = 0) (hF : (F : Int) < n) :
    Calls Tryd.prog 11 #[.int .i64 n, .slice q l.length cap, .int .i64 (F : Int)] w fun e w' => ∃ (p : Option Addr) (c : Nat), e = .returned (.tuple #[.slice p (bl (wB l F) 60).length c, .int .i64 0]) ∧ w'.ownsRow w.heap.size 3 1 (.slice p (bl (wB l F) 60).length c) (bl (wB l F) 60).length (ints (bl (wB l F) 60)) ∧ Below w.heap.size w w' := by
  have hc := check_any (cap := cap) n h
  rw [h0] at hc
  have hw : Hid (∀ w1, Below w.heap.size w w1 → Calls Tryd.prog 41 #[.slice q l.length cap] w1 fun e w' => e = .returned (.agg (lk (wB l))) ∧ Below w1.heap.size w1 w') := fun w1 hb => ways_any (h.below hb (Nat.le_refl _)) (chk_60 h0) (chk_ok h0).2.2.1
  have hZb : Hid (∀ w1, Below w.heap.size w w1 → TabZ w1) := fun w1 hb => hZ.below hb (Nat.le_refl _)
  have ht := fun w => thing_yes n F w (by omega) hF
  have hF60 : F < 60 := by have := (chk_ok h0).2.1; omega
  have hidx := fun w => run_index_lk (wB l) hF60 w
  have hFi : (F : Int) < 60 := by omega
  clear h h0 hZ hF
  go_enter Tryd.func11, Tryd.ntmps11
  go_wp2_with (first
    | (go_at_call 13; refine hc.mono ?_; rintro e w1 ⟨rfl, hb1⟩; have hway := hw.out w1 hb1; clear hc hw)
    | (go_at_call 44; refine (ht _).mono ?_; rintro e w' ⟨rfl, hw'⟩; have hw'' := hw'.symm; subst hw''; clear ht)
    | (go_at_call 41; refine hway.mono ?_; rintro e w2 ⟨rfl, hb2⟩; have hB2 : Below w.heap.size w w2 := hb1.trans (hb2.mono hb1.size); have hls := list_any (wB l F) w2 (hZb.out w2 hB2); clear hway)
    | (go_at_call 43; refine hls.mono ?_; rintro e w4 ⟨p4, c4, rfl, hr4, hb4⟩; clear hls)
    | go_in)
  go_ret2
  exact ⟨p4, c4, rfl, ⟨hr4.1, hr4.2.imp id fun ⟨g, cap, cur, hv, hb, r⟩ => ⟨g, cap, cur, hv, Nat.le_trans hB2.size hb, r⟩⟩, hB2.trans (hb4.mono hB2.size)⟩
end Go.Proofs.YtncjnmlgkhngaaaDoor
