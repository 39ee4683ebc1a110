/- How many are led to, and the edges of links. -/
import Derived.Test.YtncjnmlgkhngaaaDoorGtm
import Derived.Test.YtncjnmlgkhngaaaDoorGpc
namespace Go.Proofs.YtncjnmlgkhngaaaDoor
open Go.RowKit Gm
set_option linter.unusedSectionVars false

/-- How many the first m things lead to. -/
def nE (r : Nat → Nat → Bool) : Nat → Nat
  | 0 => 0
  | m + 1 => nE r m + (bl (r m) 60).length
/-- The edges of the first m things. -/
def eL (r : Nat → Nat → Bool) : Nat → List Ed
  | 0 => []
  | m + 1 => eL r m ++ (bl (r m) 60).map fun (j : Nat) => (⟨(m : Int), (j : Int)⟩ : Ed)
theorem eL_len (r : Nat → Nat → Bool) (m : Nat) : (eL r m).length = nE r m := by
  induction m with
  | zero => rfl
  | succ m ih => rw [eL, List.length_append, ih, List.length_map, nE]
theorem nE_le (r : Nat → Nat → Bool) (m : Nat) : nE r m ≤ 60 * m := by
  induction m with
  | zero => exact Nat.le_refl _
  | succ m ih => have := bl_len (r m) 60; rw [nE]; omega
theorem mem_eL {r : Nat → Nat → Bool} {m : Nat} {e : Ed} : e ∈ eL r m ↔ ∃ i j : Nat, i < m ∧ j < 60 ∧ r i j = true ∧ e = ⟨(i : Int), (j : Int)⟩ := by
  induction m with
  | zero => simp [eL]
  | succ m ih =>
    rw [eL, List.mem_append, ih, List.mem_map]
    constructor
    · rintro (⟨i, j, h1, h2, h3, h4⟩ | ⟨j, hj, rfl⟩)
      · exact ⟨i, j, by omega, h2, h3, h4⟩
      · have := mem_bl.1 hj
        exact ⟨m, j, by omega, this.1, this.2, rfl⟩
    · rintro ⟨i, j, h1, h2, h3, rfl⟩
      by_cases e : i = m
      · subst e; exact Or.inr ⟨j, mem_bl.2 ⟨h2, h3⟩, rfl⟩
      · exact Or.inl ⟨i, j, by omega, h2, h3, rfl⟩
theorem sum_i {a b : Nat} (ha : a ≤ 4000) (hb : b ≤ 60) : Value.int .i64 (wrap64 ((a : Int) + (b : Int))) = .int .i64 ((a + b : Nat) : Int) := by
  congr 1
  unfold wrap64; omega

set_option maxHeartbeats 1000000 in
set_option maxRecDepth 100000 in
theorem count_any (r : Nat → Nat → Bool) (w : World) : Calls Tryd.prog 45 #[.agg (lk r)] w fun e w' => e = .returned (.int .i64 ((nE r 60 : Nat) : Int)) ∧ Below w.heap.size w w' := by
  have hn := heap_alloc_new w (.cells (lk r) 63)
  have hb : Hid (Below w.heap.size w (w.alloc (.cells (lk r) 63))) := (Below.refl _ _).alloc (Nat.le_refl _) _
  have hsz := lk_size r
  go_enter Tryd.func45, Tryd.ntmps45
  go_wp2_with (first
    | (refine wpList_load_row rfl 63 _ rfl _ rfl _ _ _ _ hn Tryd.underlying63 rfl (lk_info _) ?_)
    | go_in)
  clear hsz hn
  generalize w.alloc (.cells (lk r) 63) = w2 at *
  go_loopw [3, 7] (fun sv iv wr => ∃ i : Nat, iv = .int .i64 i ∧ sv = .int .i64 ((nE r i : Nat) : Int) ∧ i ≤ 60 ∧ Below w.heap.size w wr)
    (fun _ iv _ => 60 - (intOf iv).toNat)
  case atStart => exact ⟨0, rfl, rfl, by omega, hb.out⟩
  case round =>
    clear hb
    obtain ⟨i, rfl, rfl, hi, hbl⟩ := hrel
    by_cases hi60 : i < 60
    · have hii : (i : Int) < 60 := by omega
      have hidx := fun w => run_index_lk r hi60 w
      have hon := fun w => ones_any ((bs (r i) 60 : Nat) : Int) w
      rw [onI_is] at hon
      have hb1 : Hid ((bl (r i) 60).length ≤ 60) := bl_len _ _
      have hb2 : Hid (nE r i ≤ 4000) := by have := nE_le r i; show _ ≤ _; omega
      have hnx : Hid (nE r (i + 1) = nE r i + (bl (r i) 60).length) := rfl
      generalize ((bs (r i) 60 : Nat) : Int) = x at *
      generalize (bl (r i) 60).length = b at *
      generalize hz : nE r (i + 1) = c at *
      have hzH : Hid (nE r (i + 1) = c) := hz
      clear hz
      generalize nE r i = a at *
      go_wp2_with (first
        | (go_at_call 63; refine (hon _).mono ?_; rintro e w' ⟨rfl, hw'⟩; have hw'' := hw'.symm; subst hw''; clear hon)
        | go_in)
      refine ⟨⟨i + 1, ?_, ?_, hi60, hbl⟩, ?_⟩
      · first | exact int_succ i | exact int_wsucc (by omega)
      · rw [hzH.out, hnx.out]
        first | exact sum_i hb2.out hb1.out | simp
      · first | exact meas_1 hi60 | exact meas_w hi60 (by omega)
    · have hii : ¬ (i : Int) < 60 := by omega
      have e : i = 60 := by omega
      subst e
      go_wp2
      go_ret
      exact ⟨rfl, hbl⟩
theorem owns_base' {w : World} {B B' : Nat} {e : TypeId} {k : Nat} {v : Value} {n : Nat} {xs : List Value} (h : w.ownsRow B e k v n xs) (hB : B' ≤ B) : w.ownsRow B' e k v n xs :=
  ⟨h.1, h.2.imp id fun ⟨g, cap, cur, hv, hb, r⟩ => ⟨g, cap, cur, hv, Nat.le_trans hB hb, r⟩⟩
theorem flatE_app (a b : List Ed) : flatE (a ++ b) = flatE a ++ flatE b := by simp [flatE]
theorem take_map_succ {L : List Nat} {k i : Nat} (hk : k < L.length) : (L.take (k + 1)).map (fun (j : Nat) => (⟨(i : Int), (j : Int)⟩ : Ed)) = (L.take k).map (fun (j : Nat) => (⟨(i : Int), (j : Int)⟩ : Ed)) ++ [⟨(i : Int), ((bn L k : Nat) : Int)⟩] := by
  rw [← List.take_append_getElem hk, List.map_append, bn_get hk]; rfl

set_option maxHeartbeats 2000000 in
set_option maxRecDepth 100000 in
theorem edges_any (r : Nat → Nat → Bool) (w : World) (hZ : TabZ w) : Calls Tryd.prog 46 #[.agg (lk r)] w fun e w' => ∃ (p : Option Addr) (c : Nat), e = .returned (.slice p (nE r 60) c) ∧ w'.ownsRow w.heap.size 41 2 (.slice p (nE r 60) c) (nE r 60) (flatE (eL r 60)) ∧ Below w.heap.size w w' := by
  have hn := heap_alloc_new w (.cells (lk r) 63)
  have hb : Below w.heap.size w (w.alloc (.cells (lk r) 63)) := (Below.refl _ _).alloc (Nat.le_refl _) _
  have hsw : w.heap.size < (w.alloc (.cells (lk r) 63)).heap.size := by simp
  have hZb : Hid (∀ w1, Below w.heap.size w w1 → TabZ w1) := fun w1 hb => hZ.below hb (Nat.le_refl _)
  have hct := count_any r (w.alloc (.cells (lk r) 63))
  have hc4 : Hid (nE r 60 ≤ 3600) := nE_le r 60
  have hsz := lk_size r
  clear hZ
  go_enter Tryd.func46, Tryd.ntmps46
  go_wp2_with (first
    | (refine wpList_load_row rfl 63 _ rfl _ rfl _ _ _ _ hn Tryd.underlying63 rfl (lk_info _) ?_)
    | (refine wpList_load_row rfl 63 _ rfl _ rfl _ _ _ _ hn4 Tryd.underlying63 rfl (lk_info _) ?_)
    | (go_at_call 45; refine hct.mono ?_; rintro e w2 ⟨rfl, hb2⟩; have hB2 : Below w.heap.size w w2 := hb.trans (hb2.mono hb.size); have hn2 : w2.heap[w.heap.size]? = some (.cells (lk r) 63 (0, 0)) := (hb2.block _ hsw).trans hn; clear hct hn)
    | (at_make; obtain ⟨i0, hi, hz0, hz1, hz2⟩ := info_parts info_edge; refine wpList_make_own _ rfl _ _ 22 rfl w2.heap.size 41 i0 (.agg #[.int .i64 0, .int .i64 0]) 2 Tryd.underlying22 hi hz0 hz1 _ _ _ (nE r 60) rfl rfl rfl (by rw [hz2]; have := hc4.out; omega) (by unfold maxLen; have := hc4.out; omega) (Nat.le_refl _) ?_; intro w4 hown4 hgrow4; clear hi hz0 hz1 hz2; have hB4 : Below w2.heap.size w2 w4 := ⟨hgrow4.os, hgrow4.tape, hgrow4.output, hgrow4.size, fun k hk => hgrow4.block k hk (by simp)⟩; have hn4 : w4.heap[w.heap.size]? = some (.cells (lk r) 63 (0, 0)) := (hB4.block _ (Nat.lt_of_lt_of_le hsw hb2.size)).trans hn2)
    | go_in)
  have hB2H : Hid (Below w.heap.size w w2) := hB2
  have hB4H : Hid (Below w2.heap.size w2 w4) := hB4
  clear hsz hn2 hn4 hgrow4 hb hb2 hsw hB2 hB4
  go_loopw [3, 12] (fun lv iv wr => ∃ (i : Nat) (p : Option Addr) (c : Nat), iv = .int .i64 i ∧ lv = .slice p (nE r i) c ∧ i ≤ 60 ∧ wr.ownsRow w2.heap.size 41 2 (.slice p (nE r i) c) (nE r i) (flatE (eL r i)) ∧ Below w2.heap.size w2 wr)
    (fun _ iv _ => 60 - (intOf iv).toNat)
  case atStart => exact ⟨0, _, _, rfl, rfl, by omega, hown4, hB4H.out⟩
  case round =>
    clear hown4 hB4H
    obtain ⟨i, p, c, rfl, rfl, hi, hown, hbl⟩ := hrel
    by_cases hi60 : i < 60
    · have hii : (i : Int) < 60 := by omega
      have hidx := fun w => run_index_lk r hi60 w
      have hls := list_any (r i) wr (hZb.out wr (hB2H.out.trans (hbl.mono hB2H.out.size)))
      have hb1 : Hid ((bl (r i) 60).length ≤ 60) := bl_len _ _
      have hb2 : Hid (nE r i ≤ 4000) := by have := nE_le r i; show _ ≤ _; omega
      have hnx : Hid (nE r (i + 1) = nE r i + (bl (r i) 60).length) := rfl
      have hex : Hid (flatE (eL r (i + 1)) = flatE (eL r i ++ (bl (r i) 60).map fun (j : Nat) => (⟨(i : Int), (j : Int)⟩ : Ed))) := rfl
      generalize ((bs (r i) 60 : Nat) : Int) = x at *
      generalize bl (r i) 60 = L at *
      obtain ⟨m, hm⟩ : ∃ m, L.length = m := ⟨_, rfl⟩
      rw [hm] at hls hb1 hnx
      have hmH : Hid (L.length = m) := hm
      clear hm
      generalize nE r i = a at *
      go_wp2_with (first
        | (go_at_call 43; refine hls.mono ?_; rintro e w5 ⟨p5, c5, rfl, hr5, hb5⟩; clear hls)
        | go_in)
      have hbl5 : Below w2.heap.size w2 w5 := hbl.trans (hb5.mono hbl.size)
      have hown5 := row_below hown hb5
      have hne : Hid (∀ g, Value.ownBlock (.slice p a c) = some g → g < wr.heap.size) := fun g hg => (hown.lt g hg).2
      have hwr : Hid (w2.heap.size ≤ wr.heap.size) := hbl.size
      have hr5H : Hid (w5.ownsRow wr.heap.size 3 1 (.slice p5 m c5) m (ints L)) := hr5
      clear hown hbl hr5 hidx
      go_loopw [3, 19] (fun lv kv wk => ∃ (k : Nat) (p : Option Addr) (c : Nat), kv = .int .i64 k ∧ lv = .slice p (a + k) c ∧ k ≤ m ∧ wk.ownsRow w2.heap.size 41 2 (.slice p (a + k) c) (a + k) (flatE (eL r i ++ (L.take k).map fun (j : Nat) => (⟨(i : Int), (j : Int)⟩ : Ed))) ∧ wk.ownsRow wr.heap.size 3 1 (.slice p5 m c5) m (ints L) ∧ (∀ g1 g2, Value.ownBlock (.slice p (a + k) c) = some g1 → Value.ownBlock (.slice p5 m c5) = some g2 → g1 ≠ g2) ∧ Below w2.heap.size w2 wk)
        (fun _ kv _ => m - (intOf kv).toNat)
      case atStart => exact ⟨0, p, c, rfl, rfl, Nat.zero_le _, by simpa using hown5, hr5H.out, fun g1 g2 h1 h2 => by have := hne.out g1 h1; have := (hr5H.out.lt g2 h2).1; omega, hbl5⟩
      case round =>
        clear hown5 hbl5 hr5H hne
        rename World => wk
        obtain ⟨k, pk, ck, rfl, rfl, hk, hownK, hrK, hneK, hblK⟩ := hrel
        by_cases hkm : k < m
        · obtain ⟨g, rfl, cc, hBg⟩ := row_at hrK hmH.out hkm
          have hki : (k : Int) < (m : Int) := by omega
          have hxs : Hid (flatE (eL r i ++ (L.take (k + 1)).map fun (j : Nat) => (⟨(i : Int), (j : Int)⟩ : Ed)) = flatE (eL r i ++ (L.take k).map fun (j : Nat) => (⟨(i : Int), (j : Int)⟩ : Ed)) ++ [.int .i64 (i : Int), .int .i64 ((bn L k : Nat) : Int)]) := by
            show _ = _
            rw [take_map_succ (by rw [hmH.out]; exact hkm), ← List.append_assoc, flatE_snoc]
          have hk2 : Hid (k ≤ 100) := by have := hb1.out; show _ ≤ _; omega
          have hszk := hblK.size
          have hgk : Hid (g < wk.heap.size) := (hrK.lt g rfl).2
          have hrKH : Hid (wk.ownsRow wr.heap.size 3 1 (.slice (some ⟨g, 0, none⟩) m c5) m (ints L)) := hrK
          generalize bn L k = y at *
          generalize flatE (eL r i ++ (L.take k).map fun (j : Nat) => (⟨(i : Int), (j : Int)⟩ : Ed)) = xs at *
          clear hrK hex hnx
          go_wp2_with (first
            | (at_builtin; (obtain ⟨i0, hi, hz0, hz1, hz2⟩ := info_parts info_edge; refine wpList_append_own_at _ rfl _ _ 22 rfl w2.heap.size 41 i0 (.agg #[.int .i64 0, .int .i64 0]) 2 16 Tryd.underlying22 hi hz0 hz1 hz2 rfl (by decide) _ _ _ rfl (hownK.alloc _) ⟨wk.heap.size, 0, none⟩ 1 1 [.int .i64 (i : Int), .int .i64 (y : Int)] rfl rfl (cells_new _ _ _) (fun v hv => by simp at hv; rcases hv with rfl | rfl <;> rfl) (by unfold maxLen; have := hk2.out; have := hb2.out; omega) (by have := hk2.out; have := hb2.out; omega) (by simp; omega) ?_; intro v' w6 hown6 hgrow6 hnil6 hloc6; clear hi hz0 hz1 hz2 hnil6; obtain ⟨g6, cap6, rfl⟩ := form_succ hown6))
            | go_in)
          have hgA : (wk.alloc (.cells #[.int .i64 (i : Int), .int .i64 (y : Int)] 41)).grownBy w6 (Value.ownBlock (.slice pk (a + k) ck)) := hgrow6
          have hloc : some g6 = Value.ownBlock (.slice pk (a + k) ck) ∨ some g6 = some (wk.alloc (.cells #[.int .i64 (i : Int), .int .i64 (y : Int)] 41)).heap.size := hloc6
          refine ⟨⟨k + 1, some ⟨g6, 0, none⟩, cap6, ?_, by rw [Nat.add_assoc], hkm, ?_, ?_, ?_, ?_⟩, ?_⟩
          · first | exact int_succ k | exact int_wsucc (Nat.le_trans hk2.out (by omega))
          · rw [hxs.out]; exact hown6
          · exact (hrKH.out.alloc _).kept hgA (Or.inr fun e => hneK _ _ e.symm rfl rfl)
          · rintro g1 g2 h1 h2 rfl
            have e1 : g6 = g1 := by simpa [Value.ownBlock] using h1
            have e2 : g = g1 := by simpa [Value.ownBlock] using h2
            subst e1
            rcases hloc with h | h
            · exact hneK g6 g6 h.symm (by rw [e2]; rfl) rfl
            · have := hgk.out
              simp at h
              omega
          · exact below_app hblK hownK hgA (Nat.le_refl _) hszk
          · first | exact meas_1 hkm | exact meas_w hkm (Nat.le_trans hk2.out (by omega))
        · have hki : ¬ (k : Int) < (m : Int) := by omega
          have e : k = m := by omega
          subst e
          rw [List.take_of_length_le (by rw [hmH.out]; exact Nat.le_refl _)] at hownK
          clear hrK hneK
          go_wp2
          refine ⟨⟨i + 1, pk, ck, ?_, ?_, hi60, ?_, hblK⟩, ?_⟩
          · first | exact int_succ i | exact int_wsucc (by omega)
          · rw [hnx.out]
          · rw [hnx.out, hex.out]; exact hownK
          · first | exact meas_1 hi60 | exact meas_w hi60 (by omega)
    · have hii : ¬ (i : Int) < 60 := by omega
      have e : i = 60 := by omega
      subst e
      go_wp2
      go_ret
      exact ⟨p, c, rfl, owns_base' hown hB2H.out.size, hB2H.out.trans (hbl.mono hB2H.out.size)⟩
end Go.Proofs.YtncjnmlgkhngaaaDoor
