/- The reference's Leaned. -/
import Derived.Test.YtncjnmlgkhngaaaDoorGcs
import Derived.Test.YtncjnmlgkhngaaaDoorGtx
namespace Go.Proofs.YtncjnmlgkhngaaaDoor
open Go.RowKit Gm
set_option linter.unusedSectionVars false
set_option linter.unusedVariables false

/-- Whether the edge from i to k stays, by the things below j that come behind i. -/
def tq (l : List Ed) (i k j : Nat) : Bool := eB l i k && !(bl (wB l i) j).any fun t => wB l t k
theorem tq_zero (l : List Ed) (i k : Nat) : tq l i k 0 = eB l i k := by simp [tq, bl]
theorem tq_no {l : List Ed} {i k j : Nat} (h : wB l i j = false) : tq l i k (j + 1) = tq l i k j := by
  unfold tq
  rw [bl_succ, if_neg (by simp [h]), List.append_nil]
theorem tq_far {l : List Ed} {i k j : Nat} (h2 : wB l j k = false) : tq l i k (j + 1) = tq l i k j := by
  unfold tq
  rw [bl_succ]
  cases h : wB l i j <;> simp [h2]
theorem tq_cut {l : List Ed} {i k j : Nat} (h : wB l i j = true) (h2 : wB l j k = true) : tq l i k (j + 1) = false := by
  unfold tq
  rw [bl_succ, if_pos h]
  simp [h2]
theorem tq_end {n : Nat} {l : List Ed} (hg : Gr n l) (i k : Nat) : tq l i k n = tn l i k := by
  unfold tq tn
  rw [bl_skip hg.n60 fun j h1 h2 => by
    cases e : wB l i j
    · rfl
    · have := (rch_lt hg ((wB_iff hg).1 e)).2; omega]

set_option maxHeartbeats 4000000 in
set_option maxRecDepth 100000 in
theorem leaned_any {n : Nat} {w : World} {q : Option Addr} {l : List Ed} {cap : Nat} (h : Eds w q l) (hg : Gr n l) (hl : l.length ≤ 400) :
    Calls Tryd.prog 23 #[.int .i64 (n : Int), .slice q l.length cap] w fun e w' => ∃ (p : Option Addr) (c : Nat), e = .returned (.slice p (eL (tn l) 60).length c) ∧ w'.ownsRow w.heap.size 41 2 (.slice p (eL (tn l) 60).length c) (eL (tn l) 60).length (flatE (eL (tn l) 60)) ∧ Below w.heap.size w w' := by
  have hgH : Hid (Gr n l) := hg
  have hlH : Hid (l.length ≤ 400) := hl
  have hnH : Hid (n ≤ 60) := hg.n60
  have hE : Hid (∀ w1, Below w.heap.size w w1 → Eds w1 q l) := fun w1 hb => h.below hb (Nat.le_refl _)
  have hbe : Hid (∀ w1 fr, Below w.heap.size w w1 → fr < n → _) := fun w1 fr hb hf => behind_e (n := n) (fr := fr) (cap := cap) (h.below hb (Nat.le_refl _)) hg hl hf
  have hzj : Hid (∀ i j, n ≤ j → tn l i j = false) := fun i j hj => by
    cases e : tn l i j
    · rfl
    · have := (hg.lt (tn_eB e)).2; omega
  have hzi : Hid (∀ i, n ≤ i → ∀ j, tn l i j = false) := fun i hi j => by
    cases e : tn l i j
    · rfl
    · have := (hg.lt (tn_eB e)).1; omega
  have htq : Hid (∀ i k, tq l i k n = tn l i k) := fun i k => tq_end hg i k
  clear h hg hl
  generalize tn l = r at *
  go_enter Tryd.func23, Tryd.ntmps23
  go_wp2
  go_loopw [5, 14] (fun ov iv wr => ∃ (i : Nat) (p : Option Addr) (c : Nat), iv = .int .i64 i ∧ ov = .slice p (eL r i).length c ∧ i ≤ n ∧ wr.ownsRow w.heap.size 41 2 (.slice p (eL r i).length c) (eL r i).length (flatE (eL r i)) ∧ Below w.heap.size w wr)
    (fun _ iv _ => n - (intOf iv).toNat)
  case atStart => exact ⟨0, none, 0, rfl, rfl, Nat.zero_le _, World.ownsRow_nil _ _ _ _, Below.refl _ _⟩
  case round =>
    obtain ⟨i, p, c, rfl, rfl, hin, hown, hbl⟩ := hrel
    by_cases hi : i < n
    · have hii : (i : Int) < (n : Int) := by omega
      have hi2 : Hid (i ≤ 100000) := by have := hnH.out; show _ ≤ _; omega
      have hiH : Hid (i < n) := hi
      have hblH : Hid (Below w.heap.size w wr) := hbl
      have hownH : Hid (World.ownsRow wr w.heap.size 41 2 (.slice p (eL r i).length c) (eL r i).length (flatE (eL r i))) := hown
      clear hbl hown
      go_wp2
      go_loopw [5, 18] (fun ov kv wk => ∃ (k : Nat) (p : Option Addr) (c : Nat), kv = .int .i64 k ∧ ov = .slice p (eJ r i k).length c ∧ k ≤ n ∧ wk.ownsRow w.heap.size 41 2 (.slice p (eJ r i k).length c) (eJ r i k).length (flatE (eJ r i k)) ∧ Below w.heap.size w wk)
        (fun _ kv _ => n - (intOf kv).toNat)
      case atStart => exact ⟨0, p, c, rfl, by rw [eJ_zero], Nat.zero_le _, by rw [eJ_zero]; exact hownH.out, hblH.out⟩
      case round =>
        clear hblH hownH
        rename World => wk
        obtain ⟨k, pk, ck, rfl, rfl, hkn, hownK, hblK⟩ := hrel
        have hownKH : Hid (World.ownsRow wk w.heap.size 41 2 (.slice pk (eJ r i k).length ck) (eJ r i k).length (flatE (eJ r i k))) := hownK
        have hblKH : Hid (Below w.heap.size w wk) := hblK
        clear hownK hblK
        by_cases hk : k < n
        · have hki : (k : Int) < (n : Int) := by omega
          have hkH : Hid (k < n) := hk
          have hk2 : Hid (k ≤ 100000) := by have := hnH.out; show _ ≤ _; omega
          have hlen : Hid ((eJ r i k).length ≤ 4000) := by have := eJ_len r i k; have := hnH.out; show _ ≤ _; omega
          go_wp2
          go_loopw [8, 23] (fun zv jv wj => ∃ j : Nat, jv = .int .i64 j ∧ zv = .bool (eB (l.take j) i k) ∧ j ≤ l.length ∧ Below wk.heap.size wk wj)
            (fun _ jv _ => l.length - (intOf jv).toNat)
          case atStart => exact ⟨0, rfl, rfl, Nat.zero_le _, Below.refl _ _⟩
          case round =>
            rename World => wj
            obtain ⟨j, rfl, rfl, hjl, hbj⟩ := hrel
            by_cases hj : j < l.length
            · have hsn := eB_snoc (l.take j) (ed l j) i k
              rw [← take_snoc hj] at hsn
              rcases hE.out wj (hblKH.out.trans (hbj.mono hblKH.out.size)) with hh0 | ⟨eb, eo, rfl, hAr⟩
              · omega
              have z0 := hAr.cf j hj
              have z1 := hAr.ct j hj
              have hji : (j : Int) < (l.length : Int) := by omega
              have hj2 : Hid (j ≤ 100000) := by have := hlH.out; show _ ≤ _; omega
              have heq := eqlE
              generalize (ed l j).f = F at *
              generalize (ed l j).t = T at *
              have hbA : Hid (Below wk.heap.size wk (wj.alloc (.cells #[.int .i64 F, .int .i64 T] 41))) := hbj.alloc hbj.size _
              have hn := heap_alloc_new wj (.cells #[.int .i64 F, .int .i64 T] 41)
              have hsnH : Hid (eB (l.take (j + 1)) i k = (eB (l.take j) i k || decide (F = (i : Int) ∧ T = (k : Int)))) := hsn
              clear hsn hAr hE hbj hbe
              cases hz : eB (l.take j) i k with
              | true =>
                rw [hz] at hsnH
                have hst : Hid (eB (l.take (j + 1)) i k = true) := by show _ = _; rw [hsnH.out]; simp
                clear hsnH hz
                go_wp2
                refine ⟨⟨j + 1, ?_, by rw [hst.out], hj, hbA.out⟩, ?_⟩
                · first | exact int_succ j | exact int_wsucc hj2.out
                · first | exact meas_1 hj | exact meas_w hj hj2.out
              | false =>
                rw [hz] at hsnH
                have hst : Hid (eB (l.take (j + 1)) i k = (decide (F = (i : Int)) && decide (T = (k : Int)))) := by show _ = _; rw [hsnH.out, ← Bool.decide_and]; simp
                clear hsnH hz
                go_wp2
                refine ⟨⟨j + 1, ?_, by rw [hst.out], hj, hbA.out⟩, ?_⟩
                · first | exact int_succ j | exact int_wsucc hj2.out
                · first | exact meas_1 hj | exact meas_w hj hj2.out
            · have hji : ¬ (j : Int) < (l.length : Int) := by omega
              have e : j = l.length := by omega
              subst e
              rw [List.take_length]
              have hBj : Hid (Below w.heap.size w wj) := hblKH.out.trans (hbj.mono hblKH.out.size)
              have hOj : Hid (World.ownsRow wj w.heap.size 41 2 (.slice pk (eJ r i k).length ck) (eJ r i k).length (flatE (eJ r i k))) := row_below hownKH.out hbj
              have hbh := hbe.out wj i hBj.out hiH.out
              clear hE hblKH hownKH hbj
              go_wp2_with (first
                | (go_at_call 18; refine hbh.mono ?_; rintro e w4 ⟨rfl, hR4, hb4⟩; clear hbh)
                | go_in)
              have hR4H : Hid (w4.ownsRow wj.heap.size 4 1 (.slice (some ⟨wj.heap.size, 0, none⟩) n n) n (bls (wB l i) n)) := hR4
              have hB4 : Hid (Below w.heap.size w w4) := hBj.out.trans (hb4.mono hBj.out.size)
              have hO4 : Hid (World.ownsRow w4 w.heap.size 41 2 (.slice pk (eJ r i k).length ck) (eJ r i k).length (flatE (eJ r i k))) := row_below hOj.out hb4
              clear hR4 hb4 hBj hOj
              generalize hbg : wj.heap.size = bg at *
              clear hbg
              go_loopw [8, 41] (fun zv tv wt => ∃ t : Nat, tv = .int .i64 t ∧ zv = .bool (tq l i k t) ∧ t ≤ n ∧ Below w4.heap.size w4 wt)
                (fun _ tv _ => n - (intOf tv).toNat)
              case atStart => exact ⟨0, rfl, by rw [tq_zero], Nat.zero_le _, Below.refl _ _⟩
              case round =>
                rename World => wt
                obtain ⟨t, rfl, rfl, htn, hbt⟩ := hrel
                have hBt : Hid (Below w.heap.size w wt) := hB4.out.trans (hbt.mono hB4.out.size)
                by_cases ht : t < n
                · have hti : (t : Int) < (n : Int) := by omega
                  have htH : Hid (t < n) := ht
                  have ht2 : Hid (t ≤ 100000) := by have := hnH.out; show _ ≤ _; omega
                  have hRt := row_below hR4H.out hbt
                  have y0 : wt.cell? ⟨bg, t, none⟩ = some (.bool (wB l i t)) := by rw [hRt.cellAt t (by omega), bls_get ht]
                  have hbh2 := hbe.out wt t hBt.out ht
                  have hnk : ¬ (n : Int) ≤ (k : Int) := by omega
                  have hk0 : ¬ (k : Int) < 0 := by omega
                  have hbtH : Hid (Below w4.heap.size w4 wt) := hbt
                  clear hRt hbt
                  cases hs : wB l i t with
                  | true =>
                    rw [hs] at y0
                    cases hs2 : wB l t k with
                    | true =>
                      have hst : Hid (tq l i k (t + 1) = false) := tq_cut hs hs2
                      have hs2H : Hid (wB l t k = true) := hs2
                      clear hs hs2
                      go_wp2_with (first
                        | (go_at_call 18; refine hbh2.mono ?_; rintro e w6 ⟨rfl, hR6, hb6⟩; clear hbh2; have y6 : w6.cell? ⟨wt.heap.size, k, none⟩ = some (.bool true) := (by rw [hR6.cellAt k (by have := hkH.out; omega), bls_get hkH.out, hs2H.out]))
                        | go_in)
                      refine ⟨⟨t + 1, ?_, by rw [hst.out], ht, hbtH.out.trans (hb6.mono hbtH.out.size)⟩, ?_⟩
                      · first | exact int_succ t | exact int_wsucc ht2.out
                      · first | exact meas_1 ht | exact meas_w ht ht2.out
                    | false =>
                      have hst : Hid (tq l i k (t + 1) = tq l i k t) := tq_far hs2
                      have hs2H : Hid (wB l t k = false) := hs2
                      clear hs hs2
                      go_wp2_with (first
                        | (go_at_call 18; refine hbh2.mono ?_; rintro e w6 ⟨rfl, hR6, hb6⟩; clear hbh2; have y6 : w6.cell? ⟨wt.heap.size, k, none⟩ = some (.bool false) := (by rw [hR6.cellAt k (by have := hkH.out; omega), bls_get hkH.out, hs2H.out]))
                        | go_in)
                      refine ⟨⟨t + 1, ?_, by rw [hst.out], ht, hbtH.out.trans (hb6.mono hbtH.out.size)⟩, ?_⟩
                      · first | exact int_succ t | exact int_wsucc ht2.out
                      · first | exact meas_1 ht | exact meas_w ht ht2.out
                  | false =>
                    rw [hs] at y0
                    have hst : Hid (tq l i k (t + 1) = tq l i k t) := tq_no hs
                    clear hs hbh2
                    go_wp2
                    refine ⟨⟨t + 1, ?_, by rw [hst.out], ht, hbtH.out⟩, ?_⟩
                    · first | exact int_succ t | exact int_wsucc ht2.out
                    · first | exact meas_1 ht | exact meas_w ht ht2.out
                · have hti : ¬ (t : Int) < (n : Int) := by omega
                  have e : t = n := by omega
                  subst e
                  rw [htq.out]
                  have hownT := row_below hO4.out hbt
                  have hblT := hBt.out
                  have hszt := hblT.size
                  clear hbe hbt hR4H
                  cases hs : r i k with
                  | true =>
                    have hst : Hid (eJ r i (k + 1) = eJ r i k ++ [⟨(i : Int), (k : Int)⟩]) := eJ_yes hs
                    clear hs hO4
                    generalize eJ r i k = L at *
                    obtain ⟨m, hm⟩ : ∃ m, L.length = m := ⟨_, rfl⟩
                    rw [hm] at hownT hlen ⊢
                    have hmH : Hid (L.length = m) := hm
                    clear hm
                    go_wp2_with (first
                      | (at_builtin; (obtain ⟨i0, hi, hz0, hz1, hz2⟩ := info_parts info_edge; refine wpList_append_own _ rfl _ _ 22 rfl w.heap.size 41 i0 (.agg #[.int .i64 0, .int .i64 0]) 2 16 Tryd.underlying22 hi hz0 hz1 hz2 rfl (by decide) _ _ _ rfl (hownT.alloc _) ⟨wt.heap.size, 0, none⟩ 1 1 [.int .i64 (i : Int), .int .i64 (k : Int)] rfl rfl (cells_new _ _ _) (fun v hv => by simp at hv; rcases hv with rfl | rfl <;> rfl) (by unfold maxLen; have := hlen.out; omega) (by have := hlen.out; omega) (by simp; omega) ?_; intro v' w6 hown6 hgrow6 hnil6; clear hi hz0 hz1 hz2 hnil6; obtain ⟨g6, cap6, rfl⟩ := form_succ hown6))
                      | go_in)
                    have hgA : (wt.alloc (.cells #[.int .i64 (i : Int), .int .i64 (k : Int)] 41)).grownBy w6 (Value.ownBlock (.slice pk m ck)) := hgrow6
                    have hl1 : (L ++ [(⟨(i : Int), (k : Int)⟩ : Ed)]).length = m + 1 := by simp [hmH.out]
                    refine ⟨⟨k + 1, some ⟨g6, 0, none⟩, cap6, ?_, ?_, hkH.out, ?_, ?_⟩, ?_⟩
                    · first | exact int_succ k | exact int_wsucc hk2.out
                    · rw [hst.out, hl1]
                    · rw [hst.out, hl1, flatE_snoc]; exact hown6
                    · exact below_app hblT hownT hgA (Nat.le_refl _) hszt
                    · first | exact meas_1 hkH.out | exact meas_w hkH.out hk2.out
                  | false =>
                    have hst : Hid (eJ r i (k + 1) = eJ r i k) := eJ_no hs
                    clear hs hO4
                    generalize eJ r i k = L at *
                    go_wp2
                    refine ⟨⟨k + 1, pk, ck, ?_, by rw [hst.out], hkH.out, by rw [hst.out]; exact hownT, hblT⟩, ?_⟩
                    · first | exact int_succ k | exact int_wsucc hk2.out
                    · first | exact meas_1 hkH.out | exact meas_w hkH.out hk2.out
        · have hki : ¬ (k : Int) < (n : Int) := by omega
          have e : k = n := by omega
          subst e
          have hst : Hid (eJ r i k = eL r (i + 1)) := eJ_end hnH.out (hzj.out i)
          clear hbe hE
          go_wp2
          refine ⟨⟨i + 1, pk, ck, ?_, by rw [hst.out], hiH.out, by rw [← hst.out]; exact hownKH.out, hblKH.out⟩, ?_⟩
          · first | exact int_succ i | exact int_wsucc hi2.out
          · first | exact meas_1 hiH.out | exact meas_w hiH.out hi2.out
    · have hii : ¬ (i : Int) < (n : Int) := by omega
      have e : i = n := by omega
      subst e
      have hst : Hid (eL r 60 = eL r i) := eL_end hzi.out 60 hnH.out
      clear hbe hE
      go_wp2
      go_ret
      rw [hst.out]
      exact ⟨p, c, rfl, hown, hbl⟩
end Go.Proofs.YtncjnmlgkhngaaaDoor
