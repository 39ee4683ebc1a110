/- GraphOrder, walked. -/
import Derived.Test.YtgcdifpkfpgafaaDoorGe
import Derived.Laws.OwnMore
namespace Go.Proofs.YtgcdifpkfpgafaaDoor
open Go.RowKit Gm
set_option linter.unusedSectionVars false

/-- At which place of the first k of a row each thing stands, from 1 on; 0, if at none. -/
def ap (R : List Nat) : Nat → Nat → Nat
  | 0, _ => 0
  | k + 1, x => if x = bn R k then k + 1 else ap R k x
theorem ap_none {R : List Nat} : ∀ {k x : Nat}, k ≤ R.length → x ∉ R.take k → ap R k x = 0
  | 0, _, _, _ => rfl
  | k + 1, x, hk, hx => by
    have hk' : k < R.length := by omega
    rw [← List.take_append_getElem hk'] at hx
    have h1 : x ∉ R.take k := fun h => hx (List.mem_append_left _ h)
    have h2 : x ≠ bn R k := fun h => hx (List.mem_append_right _ (by rw [bn_get hk'] at h; simp [h]))
    rw [ap, if_neg h2]
    exact ap_none (by omega) h1
theorem ap_at {R : List Nat} (hn : R.Pairwise (· ≠ ·)) : ∀ {k i : Nat}, k ≤ R.length → i < k → ap R k (bn R i) = i + 1
  | k + 1, i, hk, hi => by
    by_cases e : i = k
    · subst e; simp [ap]
    · have : bn R i ≠ bn R k := by
        rw [List.pairwise_iff_getElem] at hn
        have := hn i k (by omega) (by omega) (by omega)
        rwa [bn_get (by omega), bn_get (by omega)]
      rw [ap, if_neg this]
      exact ap_at hn (by omega) (by omega)
def atL (R : List Nat) (k N : Nat) : List Value := (List.range N).map fun (x : Nat) => .int .i64 ((ap R k x : Nat) : Int)
theorem atL_get (R : List Nat) (k : Nat) {N x : Nat} (hx : x < N) : (atL R k N)[x]? = some (.int .i64 ((ap R k x : Nat) : Int)) := by simp [atL, hx]
theorem atL_set (R : List Nat) {k N : Nat} : (atL R k N).set (bn R k) (.int .i64 ((k + 1 : Nat) : Int)) = atL R (k + 1) N := by
  apply List.ext_getElem?
  intro j
  rw [List.getElem?_set]
  by_cases hj : j < N
  · rw [atL_get _ _ hj, atL_get _ _ hj]
    by_cases e : bn R k = j
    · subst e
      rw [if_pos rfl, if_pos (by simp [atL]; exact hj)]
      simp [ap]
    · rw [if_neg e]
      simp [ap, Ne.symm e]
  · have h1 : (atL R k N)[j]? = none := by simp [atL]; omega
    have h2 : (atL R (k + 1) N)[j]? = none := by simp [atL]; omega
    rw [h1, h2]
    split
    · split
      · rename_i h; simp [atL] at h; omega
      · rfl
    · rfl
theorem atL_zero (R : List Nat) (N : Nat) : List.replicate N (Value.int .i64 0) = atL R 0 N := by
  apply List.ext_getElem?
  intro j
  by_cases hj : j < N
  · rw [atL_get _ _ hj]; simp [hj, ap]
  · simp [atL, hj]
theorem owns_store {w : World} {B g n cap j : Nat} {e : TypeId} {xs : List Value} (h : w.ownsRow B e 1 (.slice (some ⟨g, 0, none⟩) n cap) n xs) (u : Value) : (w.setCell ⟨g, j, none⟩ u).ownsRow B e 1 (.slice (some ⟨g, 0, none⟩) n cap) n (xs.set j u) := by
  refine ⟨by simpa using h.1, ?_⟩
  rcases h.2 with ⟨h0, _⟩ | ⟨g', cap', cur, hv, hB, hg, h1, h2, h3, h4⟩
  · simp at h0
  · obtain ⟨rfl, rfl⟩ : g = g' ∧ cap = cap' := by simpa using hv
    refine Or.inr ⟨g, cap, _, rfl, hB, heap_setCell_same w g j _ _ _ hg, h1, h2, by simpa using h3, ?_⟩
    simp only [Array.toList_setIfInBounds]
    rw [List.take_set, h4]
theorem owns_frz {w : World} {B g n cap : Nat} {e : TypeId} {k : Nat} {xs : List Value} (h : w.ownsRow B e k (.slice (some ⟨g, 0, none⟩) n cap) n xs) (j : Nat) : w.frozen? ⟨g, j, none⟩ = false := by
  rcases h.2 with ⟨h0, _⟩ | ⟨g', cap', cur, hv, hB, hg, _⟩
  · simp at h0
  · obtain ⟨rfl, rfl⟩ : g = g' ∧ cap = cap' := by simpa using hv
    simp [World.frozen?, hg]
theorem owns_set_other {w : World} {B : Nat} {e : TypeId} {k : Nat} {v : Value} {n : Nat} {xs : List Value} (h : w.ownsRow B e k v n xs) (a : Addr) (u : Value) (hne : ∀ g, v.ownBlock = some g → g ≠ a.block) : (w.setCell a u).ownsRow B e k v n xs :=
  h.kept (w' := w.setCell a u) (row := some a.block) ⟨rfl, rfl, rfl, by simp [World.setCell], fun k _ hk => Below.heap_setCell w a u k (fun e => hk (by rw [e]))⟩ (by
    cases hv : v.ownBlock with
    | none => exact Or.inl rfl
    | some g => right; intro e; cases e; exact hne _ hv rfl)
/-- Along an edge the places rise. -/
theorem ap_edge {l : List Ed} {N : Nat} {R : List Nat} (hg : Gr N l) (h : Grd (eB l) N R) (hN : R.length = N) (hall : ∀ j, j < N → j ∈ R) {f t : Nat} (he : eB l f t = true) : ap R N f < ap R N t := by
  obtain ⟨b, hb, eb⟩ := List.getElem_of_mem (hall t (hg.lt he).2)
  have hf := h.ahead b hb f (by rw [eb]; exact he)
  obtain ⟨a, ha, ea⟩ := List.getElem_of_mem hf
  have hab : a < b := by simp at ha; omega
  have ea' : bn R a = f := by rw [bn_get (by omega), ← ea, List.getElem_take]
  have eb' : bn R b = t := by rw [bn_get hb, eb]
  rw [← ea', ← eb', ap_at h.nodup (by omega) (by omega), ap_at h.nodup (by omega) (by omega)]
  omega
theorem chk_vals (n : Int) (l : List Ed) : chk n l = 0 ∨ chk n l = 1 ∨ chk n l = 2 ∨ chk n l = 4 := by
  unfold chk
  repeat (first | omega | split)
theorem knot_cyc {n : Int} {l : List Ed} (h0 : chk n l = 0) : (∃ i, Rch (eB l) i i) ↔ 0 < (bl (fun i => wB l i i) 60).length := by
  have hg := chk_gr h0
  constructor
  · rintro ⟨i, hi⟩
    have := rch_lt hg hi
    have := hg.n60
    exact List.length_pos_of_mem (mem_bl.2 ⟨by omega, (wB_iff hg).2 hi⟩)
  · intro h
    obtain ⟨i, hi⟩ := List.exists_mem_of_length_pos h
    exact ⟨i, (wB_iff hg).1 (mem_bl.1 hi).2⟩

set_option maxHeartbeats 2000000 in
set_option maxRecDepth 100000 in
theorem graphOrder_walk (n : Int) (q : Option Addr) (l : List Ed) (cap : Nat) (w : World) (hZ : TabZ w) (h : Eds w q l) :
    Calls Tryd.prog 5 #[.int .i64 n, .slice q l.length cap] w fun e w' => e = .returned (.bool true) ∧ Below w.heap.size w w' := by
  have hE : Hid (∀ w1, Below w.heap.size w w1 → Eds w1 q l) := fun w1 hb => h.below hb (Nat.le_refl _)
  have hZb : Hid (∀ w1, Below w.heap.size w w1 → TabZ w1) := fun w1 hb => hZ.below hb (Nat.le_refl _)
  have hgs := graphs_any w hZ
  by_cases h0 : chk n l = 0
  · obtain ⟨hn0, hn60, hl4, hok⟩ := chk_ok h0
    obtain ⟨N, rfl⟩ : ∃ N : Nat, n = N := ⟨n.toNat, by omega⟩
    have hkc := knot_cyc h0
    have hkn : Hid (∀ w1, Below w.heap.size w w1 → _) := fun w1 hb => knot_ok (cap := cap) (hE.out w1 hb) (hZb.out w1 hb) h0
    by_cases hcy : ∃ i, Rch (eB l) i i
    · have hor : Hid (∀ w1, Below w.heap.size w w1 → _) := fun w1 hb => order_no (cap := cap) (hE.out w1 hb) (hZb.out w1 hb) h0 hcy
      have hpos : 0 < (bl (fun i => wB l i i) 60).length := hkc.1 hcy
      generalize (bl (fun i => wB l i i) 60).length = kl at *
      have hpi : (0 : Int) < (kl : Int) := by omega
      clear hkc hcy h0 hok hE hZb h hZ
      go_enter Tryd.func5, Tryd.ntmps5
      go_wp2_with (first
        | (go_at_call 24; refine hgs.mono ?_; rintro e w1 ⟨rfl, hb1⟩; clear hgs)
        | (go_at_call 9; refine (hor.out w1 hb1).mono ?_; rintro e w2 ⟨rfl, hb2⟩; have hB2 : Below w.heap.size w w2 := hb1.trans (hb2.mono hb1.size))
        | (go_at_call 10; refine (hkn.out w2 hB2).mono ?_; rintro e w3 ⟨p3, c3, rfl, hr3, hb3⟩)
        | go_in)
      go_ret
      exact ⟨rfl, hB2.trans (hb3.mono hB2.size)⟩
    · have hac : ∀ i, ¬ Rch (eB l) i i := fun i hi => hcy ⟨i, hi⟩
      have hor : Hid (∀ w1, Below w.heap.size w w1 → _) := fun w1 hb => order_yes (cap := cap) (hE.out w1 hb) (hZb.out w1 hb) h0 hac
      have hk0 : (bl (fun i => wB l i i) 60).length = 0 := by
        rcases Nat.eq_zero_or_pos (bl (fun i => wB l i i) 60).length with e | e
        · exact e
        · exact absurd (hkc.2 e) hcy
      rw [hk0] at hkn
      have hg : Hid (Gr N l) := by have h3 := chk_gr h0; rw [Int.toNat_natCast] at h3; exact h3
      have hokH : Hid (∀ e ∈ l, 0 ≤ e.f ∧ e.f < (N : Int) ∧ 0 ≤ e.t ∧ e.t < (N : Int)) := hok
      have hl4H : Hid (l.length ≤ 400) := hl4
      have hN60 : Hid (N ≤ 60) := by show _ ≤ _; omega
      clear hkc hcy h0 hok hZb h hZ hk0 hac hl4
      go_enter Tryd.func5, Tryd.ntmps5
      go_wp2_with (first
        | (go_at_call 24; refine hgs.mono ?_; rintro e w1 ⟨rfl, hb1⟩; clear hgs)
        | (go_at_call 9; refine (hor.out w1 hb1).mono ?_; rintro e w2 ⟨R, p2, c2, rfl, hR, hb2⟩; have hB2 : Below w.heap.size w w2 := hb1.trans (hb2.mono hb1.size))
        | (go_at_call 10; refine (hkn.out w2 hB2).mono ?_; rintro e w3 ⟨p3, c3, rfl, hr3, hb3⟩)
        | (at_make; obtain ⟨i0, hi, hz0, hz1, hz2⟩ := info_parts info_int; refine wpList_make_full _ rfl _ _ 23 rfl w3.heap.size 3 i0 (.int .i64 0) 1 Tryd.underlying23 hi hz0 hz1 _ _ _ _ N rfl rfl rfl rfl (by rw [hz2]; have := hN60.out; omega) (by unfold maxLen; have := hN60.out; omega) (Nat.le_refl _) ?_; intro w4 hown4 hgrow4; clear hi hz0 hz1 hz2)
        | go_in)
      obtain ⟨hrow, hRN, hgrd, hall⟩ := hR
      have hB3 : Below w.heap.size w w3 := hB2.trans (hb3.mono hB2.size)
      have hat4 : w4.ownsRow w3.heap.size 3 1 (.slice (some ⟨w3.heap.size, 0, none⟩) N N) N (atL R 0 N) := by
        have e : (madeCells (Value.int .i64 0).cells (N * 1)).toList = atL R 0 N := by
          rw [← atL_zero, Nat.mul_one]
          exact toList_madeCells_one _ _
        rw [← e]; exact hown4
      have hB4 : Below w.heap.size w w4 := hB3.trans ⟨hgrow4.os, hgrow4.tape, hgrow4.output, hgrow4.size, fun k hk => hgrow4.block k (by have := hB3.size; omega) (by simp)⟩
      have hrow4 : w4.ownsRow w1.heap.size 3 1 (.slice p2 N c2) N (ints R) := (row_below hrow hb3).kept hgrow4 (by cases hv : Value.ownBlock (.slice p2 N c2) <;> simp)
      have hown2 : Hid (∀ g, Value.ownBlock (.slice p2 N c2) = some g → g ≠ w3.heap.size) := fun g hg => by have := ((row_below hrow hb3).lt g hg).2; omega
      have hsw : Hid (w.heap.size ≤ w3.heap.size) := hB3.size
      have hgrdH : Hid (Grd (eB l) N R) := hgrd
      have hallH : Hid (∀ j, j < N → j ∈ R) := hall
      have hRNH : Hid (R.length = N) := hRN
      clear hown4 hgrow4 hrow hgrd hall hRN hB3 hb3 hB2 hb2 hb1 hor hkn hr3
      generalize w3.heap.size = gb at *
      go_loopw [53] (fun iv wr => ∃ k : Nat, iv = .int .i64 k ∧ k ≤ N ∧ wr.ownsRow gb 3 1 (.slice (some ⟨gb, 0, none⟩) N N) N (atL R k N) ∧ wr.ownsRow w1.heap.size 3 1 (.slice p2 N c2) N (ints R) ∧ Below w.heap.size w wr)
        (fun iv _ => N - (intOf iv).toNat)
      case atStart => exact ⟨0, rfl, Nat.zero_le _, hat4, hrow4, hB4⟩
      case round =>
        clear hat4 hrow4 hB4
        obtain ⟨k, rfl, hkN, hat, hrow, hbl⟩ := hrel
        by_cases hk : k < N
        · have hki : (k : Int) < (N : Int) := by omega
          have hkR : k < R.length := by rw [hRNH.out]; exact hk
          obtain ⟨g, rfl, c1, _⟩ := row_at hrow hRNH.out hk
          have hx : bn R k < N := by rw [bn_get hkR]; exact hgrdH.out.lt _ (List.getElem_mem hkR)
          have ha : wr.cell? ⟨gb, bn R k, none⟩ = some (.int .i64 0) := by
            rw [hat.cellAt (bn R k) (by omega), atL_get R k hx, ap_none (by omega)]
            · rfl
            · have hn := hgrdH.out.nodup
              intro hm
              obtain ⟨a, ha, ea⟩ := List.getElem_of_mem hm
              have hak : a < k := by simp at ha; omega
              rw [List.pairwise_iff_getElem] at hn
              refine hn a k (by omega) hkR hak ?_
              rw [List.getElem_take] at ea
              rw [ea, bn_get hkR]
          have hf := owns_frz hat (bn R k)
          have hst : Hid ((atL R k N).set (bn R k) (.int .i64 ((k + 1 : Nat) : Int)) = atL R (k + 1) N) := atL_set R
          have hxi : ((bn R k : Nat) : Int) < (N : Int) := by omega
          have hx0 : ¬ ((bn R k : Nat) : Int) < 0 := by omega
          have hxg : ¬ ((N : Nat) : Int) ≤ ((bn R k : Nat) : Int) := by omega
          have hk2 : Hid (k ≤ 100000) := by have := hN60.out; show _ ≤ _; omega
          generalize bn R k = x at *
          have hatH : Hid (wr.ownsRow gb 3 1 (.slice (some ⟨gb, 0, none⟩) N N) N (atL R k N)) := hat
          have hrowH : Hid (wr.ownsRow w1.heap.size 3 1 (.slice (some ⟨g, 0, none⟩) N c2) N (ints R)) := hrow
          clear hat hrow
          go_wp2
          refine ⟨⟨k + 1, ?_, hk, ?_, ?_, ?_⟩, ?_⟩
          · first | exact int_succ k | exact int_wsucc hk2.out
          · rw [← hst.out]
            first | exact owns_store hatH.out _ | (rw [← wrap_succ hk2.out]; exact owns_store hatH.out _)
          · exact owns_set_other hrowH.out _ _ hown2.out
          · exact hbl.setCell (by show w.heap.size ≤ gb; exact hsw.out) _
          · first | exact meas_1 hk | exact meas_w hk hk2.out
        · have hki : ¬ (k : Int) < (N : Int) := by omega
          have e : k = N := by omega
          subst e
          have hatH : Hid (wr.ownsRow gb 3 1 (.slice (some ⟨gb, 0, none⟩) k k) k (atL R k k)) := hat
          have hblH : Hid (Below w.heap.size w wr) := hbl
          clear hat hrow hbl
          rename World => wo
          go_wp2
          go_loopw [80] (fun iv wr => ∃ j : Nat, iv = .int .i64 j ∧ j ≤ l.length ∧ Below wo.heap.size wo wr)
            (fun iv _ => l.length - (intOf iv).toNat)
          case atStart => exact ⟨0, rfl, Nat.zero_le _, Below.refl _ _⟩
          case round =>
            obtain ⟨j, rfl, hjl, hbl⟩ := hrel
            have hBl : Below w.heap.size w wr := hblH.out.trans (hbl.mono hblH.out.size)
            by_cases hj : j < l.length
            · rcases hE.out wr hBl with hh0 | ⟨b, o, rfl, hAr⟩
              · omega
              have z0 := hAr.cf j hj
              have z1 := hAr.ct j hj
              obtain ⟨F, hF⟩ : ∃ F : Nat, (ed l j).f = F := ⟨((ed l j).f).toNat, by have := hokH.out _ (ed_mem hj); omega⟩
              obtain ⟨T, hT⟩ : ∃ T : Nat, (ed l j).t = T := ⟨((ed l j).t).toNat, by have := hokH.out _ (ed_mem hj); omega⟩
              have hFN : F < k := by have := hokH.out _ (ed_mem hj); omega
              have hTN : T < k := by have := hokH.out _ (ed_mem hj); omega
              have hlt := ap_edge hg.out hgrdH.out hRNH.out hallH.out (eB_true.2 ⟨_, ed_mem hj, hF, hT⟩)
              have hat := row_below hatH.out hbl
              have a0 : wr.cell? ⟨gb, F, none⟩ = some (.int .i64 ((ap R k F : Nat) : Int)) := by rw [hat.cellAt F (by omega), atL_get R k hFN]
              have a1 : wr.cell? ⟨gb, T, none⟩ = some (.int .i64 ((ap R k T : Nat) : Int)) := by rw [hat.cellAt T (by omega), atL_get R k hTN]
              have hlti : ¬ ((ap R k T : Nat) : Int) ≤ ((ap R k F : Nat) : Int) := by omega
              rw [hF] at z0
              rw [hT] at z1
              have hji : (j : Int) < (l.length : Int) := by omega
              have hj2 : Hid (j ≤ 100000) := by have := hl4H.out; show _ ≤ _; omega
              have hFi : (F : Int) < (k : Int) := by omega
              have hTi : (T : Int) < (k : Int) := by omega
              generalize ap R k F = aF at *
              generalize ap R k T = aT at *
              have a0a := cell_alloc a0 (.cells #[.int .i64 (F : Int), .int .i64 (T : Int)] 41)
              have a1a := cell_alloc a1 (.cells #[.int .i64 (F : Int), .int .i64 (T : Int)] 41)
              have hbz : Below wo.heap.size wo (wr.alloc (.cells #[.int .i64 (F : Int), .int .i64 (T : Int)] 41)) := hbl.alloc hbl.size _
              have hn := heap_alloc_new wr (.cells #[.int .i64 (F : Int), .int .i64 (T : Int)] 41)
              clear hAr hF hT hat a0 a1 hE
              go_wp2
              clear z0 z1
              generalize wr.alloc (.cells #[.int .i64 (F : Int), .int .i64 (T : Int)] 41) = wz at *
              generalize wr.heap.size = hc at *
              have k0 : wz.cell? ⟨hc, 0, none⟩ = some (.int .i64 (F : Int)) := (cell_of_row _ _ 0 _ _ _ hn).trans rfl
              have k1 : wz.cell? ⟨hc, 1, none⟩ = some (.int .i64 (T : Int)) := (cell_of_row _ _ 1 _ _ _ hn).trans rfl
              clear hn
              go_quiet (fail)
              go_wp2
              refine ⟨⟨j + 1, ?_, hj, ⟨hbz.os, hbz.tape, hbz.output, hbz.size, hbz.block⟩⟩, ?_⟩
              · first | exact int_succ j | exact int_wsucc hj2.out
              · first | exact meas_1 hj | exact meas_w hj hj2.out
            · have hji : ¬ (j : Int) < (l.length : Int) := by omega
              go_wp2
              go_ret
              exact ⟨rfl, hBl⟩
  · have hv := chk_vals n l
    have hor : Hid (∀ w1, Below w.heap.size w w1 → _) := fun w1 hb => order_bad (cap := cap) (hE.out w1 hb) h0
    have hkn : Hid (∀ w1, Below w.heap.size w w1 → _) := fun w1 hb => knot_bad (cap := cap) (hE.out w1 hb) h0
    generalize chk n l = ev at *
    have e0 : (ev == 0) = false := by simpa using h0
    have e8 : (ev == 8) = false := by simp; omega
    clear hv hE hZb h hZ
    go_enter Tryd.func5, Tryd.ntmps5
    go_wp2_with (first
      | (go_at_call 24; refine hgs.mono ?_; rintro e w1 ⟨rfl, hb1⟩; clear hgs)
      | (go_at_call 9; refine (hor.out w1 hb1).mono ?_; rintro e w2 ⟨rfl, hb2⟩; have hB2 : Below w.heap.size w w2 := hb1.trans (hb2.mono hb1.size))
      | (go_at_call 10; refine (hkn.out w2 hB2).mono ?_; rintro e w3 ⟨rfl, hb3⟩)
      | go_in)
    go_ret
    exact ⟨rfl, hB2.trans (hb3.mono hB2.size)⟩
end Go.Proofs.YtgcdifpkfpgafaaDoor
