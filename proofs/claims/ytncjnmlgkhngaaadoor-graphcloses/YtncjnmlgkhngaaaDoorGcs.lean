/- The reference's Closed. -/
import Derived.Test.YtncjnmlgkhngaaaDoorGwk
namespace Go.Proofs.YtncjnmlgkhngaaaDoor
open Go.RowKit Gm
set_option linter.unusedSectionVars false
set_option linter.unusedVariables false

/-- The edges of the first i things, and those of thing i to things below k. -/
def eJ (r : Nat → Nat → Bool) (i k : Nat) : List Ed := eL r i ++ (bl (r i) k).map fun (j : Nat) => (⟨(i : Int), (j : Int)⟩ : Ed)
theorem eJ_zero (r : Nat → Nat → Bool) (i : Nat) : eJ r i 0 = eL r i := by simp [eJ, bl]
theorem eJ_yes {r : Nat → Nat → Bool} {i k : Nat} (h : r i k = true) : eJ r i (k + 1) = eJ r i k ++ [⟨(i : Int), (k : Int)⟩] := by
  unfold eJ
  rw [bl_succ, if_pos h, List.map_append, List.append_assoc]
  rfl
theorem eJ_no {r : Nat → Nat → Bool} {i k : Nat} (h : r i k = false) : eJ r i (k + 1) = eJ r i k := by
  unfold eJ
  rw [bl_succ, if_neg (by simp [h]), List.append_nil]
theorem eJ_end {r : Nat → Nat → Bool} {n i : Nat} (hn : n ≤ 60) (h : ∀ j, n ≤ j → r i j = false) : eJ r i n = eL r (i + 1) := by
  unfold eJ
  rw [eL, bl_skip hn fun j h1 _ => h j h1]
theorem eL_end {r : Nat → Nat → Bool} {n : Nat} (h : ∀ i, n ≤ i → ∀ j, r i j = false) : ∀ m, n ≤ m → eL r m = eL r n
  | 0, hm => by rw [show n = 0 by omega]
  | m + 1, hm => by
    by_cases e : n = m + 1
    · rw [e]
    · rw [eL, eL_end h m (by omega), bl_nil.2 fun j _ => h m (by omega) j]
      simp
theorem eJ_len (r : Nat → Nat → Bool) (i k : Nat) : (eJ r i k).length ≤ 60 * i + k := by
  unfold eJ
  rw [List.length_append, eL_len, List.length_map]
  have := nE_le r i
  have := bl_len (r i) k
  omega

set_option maxHeartbeats 2000000 in
set_option maxRecDepth 100000 in
theorem closed_any {n : Nat} {w : World} {q : Option Addr} {l : List Ed} {cap : Nat} (h : Eds w q l) (hg : Gr n l) (hl : l.length ≤ 400) :
    Calls Tryd.prog 21 #[.int .i64 (n : Int), .slice q l.length cap] w fun e w' => ∃ (p : Option Addr) (c : Nat), e = .returned (.slice p (eL (wB l) 60).length c) ∧ w'.ownsRow w.heap.size 41 2 (.slice p (eL (wB l) 60).length c) (eL (wB l) 60).length (flatE (eL (wB l) 60)) ∧ Below w.heap.size w w' := by
  have hnH : Hid (n ≤ 60) := hg.n60
  have hbe : Hid (∀ w1 fr, Below w.heap.size w w1 → fr < n → _) := fun w1 fr hb hf => behind_e (n := n) (fr := fr) (cap := cap) (h.below hb (Nat.le_refl _)) hg hl hf
  have hzj : Hid (∀ i j, n ≤ j → wB l i j = false) := fun i j hj => by
    cases e : wB l i j
    · rfl
    · have := (rch_lt hg ((wB_iff hg).1 e)).2; omega
  have hzi : Hid (∀ i, n ≤ i → ∀ j, wB l i j = false) := fun i hi j => by
    cases e : wB l i j
    · rfl
    · have := (rch_lt hg ((wB_iff hg).1 e)).1; omega
  clear h hg hl
  generalize wB l = r at *
  go_enter Tryd.func21, Tryd.ntmps21
  go_wp2
  go_loopw [5, 10] (fun ov iv wr => ∃ (i : Nat) (p : Option Addr) (c : Nat), iv = .int .i64 i ∧ ov = .slice p (eL r i).length c ∧ i ≤ n ∧ wr.ownsRow w.heap.size 41 2 (.slice p (eL r i).length c) (eL r i).length (flatE (eL r i)) ∧ Below w.heap.size w wr)
    (fun _ iv _ => n - (intOf iv).toNat)
  case atStart => exact ⟨0, none, 0, rfl, rfl, Nat.zero_le _, World.ownsRow_nil _ _ _ _, Below.refl _ _⟩
  case round =>
    obtain ⟨i, p, c, rfl, rfl, hin, hown, hbl⟩ := hrel
    by_cases hi : i < n
    · have hbh := hbe.out wr i hbl hi
      have hii : (i : Int) < (n : Int) := by omega
      have hi2 : Hid (i ≤ 100000) := by have := hnH.out; show _ ≤ _; omega
      have hiH : Hid (i < n) := hi
      have hblH : Hid (Below w.heap.size w wr) := hbl
      have hownH : Hid (World.ownsRow wr w.heap.size 41 2 (.slice p (eL r i).length c) (eL r i).length (flatE (eL r i))) := hown
      clear hbl hown hbe
      go_wp2_with (first
        | (go_at_call 18; refine hbh.mono ?_; rintro e w4 ⟨rfl, hR4, hb4⟩; clear hbh)
        | go_in)
      have hR4H : Hid (w4.ownsRow wr.heap.size 4 1 (.slice (some ⟨wr.heap.size, 0, none⟩) n n) n (bls (r i) n)) := hR4
      have hB4 : Hid (Below w.heap.size w w4) := hblH.out.trans (hb4.mono hblH.out.size)
      have hO4 : Hid (World.ownsRow w4 w.heap.size 41 2 (.slice p (eL r i).length c) (eL r i).length (flatE (eL r i))) := row_below hownH.out hb4
      have hne4 : Hid (∀ g, Value.ownBlock (.slice p (eL r i).length c) = some g → g ≠ wr.heap.size) := fun g hg => by have := (hownH.out.lt g hg).2; omega
      clear hR4 hb4 hownH hblH
      generalize hbg : wr.heap.size = bg at *
      clear hbg
      go_loopw [5, 18] (fun ov kv wk => ∃ (k : Nat) (p : Option Addr) (c : Nat), kv = .int .i64 k ∧ ov = .slice p (eJ r i k).length c ∧ k ≤ n ∧ wk.ownsRow w.heap.size 41 2 (.slice p (eJ r i k).length c) (eJ r i k).length (flatE (eJ r i k)) ∧ wk.ownsRow bg 4 1 (.slice (some ⟨bg, 0, none⟩) n n) n (bls (r i) n) ∧ (∀ g, Value.ownBlock (.slice p (eJ r i k).length c) = some g → g ≠ bg) ∧ Below w.heap.size w wk)
        (fun _ kv _ => n - (intOf kv).toNat)
      case atStart => exact ⟨0, p, c, rfl, by rw [eJ_zero], Nat.zero_le _, by rw [eJ_zero]; exact hO4.out, hR4H.out, by rw [eJ_zero]; exact hne4.out, hB4.out⟩
      case round =>
        clear hR4H hB4 hO4 hne4
        rename World => wk
        obtain ⟨k, pk, ck, rfl, rfl, hkn, hownK, hrK, hneK, hblK⟩ := hrel
        by_cases hk : k < n
        · have hki : (k : Int) < (n : Int) := by omega
          have hk2 : Hid (k ≤ 100000) := by have := hnH.out; show _ ≤ _; omega
          have y0 : wk.cell? ⟨bg, k, none⟩ = some (.bool (r i k)) := by rw [hrK.cellAt k (by omega), bls_get hk]
          have hlen : Hid ((eJ r i k).length ≤ 4000) := by have := eJ_len r i k; have := hnH.out; show _ ≤ _; omega
          have hszk := hblK.size
          have hgk : Hid (bg < wk.heap.size) := (hrK.lt bg rfl).2
          have hrKH : Hid (wk.ownsRow bg 4 1 (.slice (some ⟨bg, 0, none⟩) n n) n (bls (r i) n)) := hrK
          clear hrK
          cases hs : r i k with
          | true =>
            have hst : Hid (eJ r i (k + 1) = eJ r i k ++ [⟨(i : Int), (k : Int)⟩]) := eJ_yes hs
            rw [hs] at y0
            clear hs
            generalize eJ r i k = L at *
            obtain ⟨m, hm⟩ : ∃ m, L.length = m := ⟨_, rfl⟩
            rw [hm] at hownK hneK hlen ⊢
            have hmH : Hid (L.length = m) := hm
            clear hm
            go_wp2_with (first
              | (at_builtin; (obtain ⟨i0, hi, hz0, hz1, hz2⟩ := info_parts info_edge; refine wpList_append_own_at _ rfl _ _ 22 rfl w.heap.size 41 i0 (.agg #[.int .i64 0, .int .i64 0]) 2 16 Tryd.underlying22 hi hz0 hz1 hz2 rfl (by decide) _ _ _ rfl (hownK.alloc _) ⟨wk.heap.size, 0, none⟩ 1 1 [.int .i64 (i : Int), .int .i64 (k : Int)] rfl rfl (cells_new _ _ _) (fun v hv => by simp at hv; rcases hv with rfl | rfl <;> rfl) (by unfold maxLen; have := hlen.out; omega) (by have := hlen.out; omega) (by simp; omega) ?_; intro v' w6 hown6 hgrow6 hnil6 hloc6; clear hi hz0 hz1 hz2 hnil6; obtain ⟨g6, cap6, rfl⟩ := form_succ hown6))
              | go_in)
            have hgA : (wk.alloc (.cells #[.int .i64 (i : Int), .int .i64 (k : Int)] 41)).grownBy w6 (Value.ownBlock (.slice pk m ck)) := hgrow6
            have hloc : some g6 = Value.ownBlock (.slice pk m ck) ∨ some g6 = some (wk.alloc (.cells #[.int .i64 (i : Int), .int .i64 (k : Int)] 41)).heap.size := hloc6
            have hl1 : (L ++ [(⟨(i : Int), (k : Int)⟩ : Ed)]).length = m + 1 := by simp [hmH.out]
            refine ⟨⟨k + 1, some ⟨g6, 0, none⟩, cap6, ?_, ?_, hk, ?_, ?_, ?_, ?_⟩, ?_⟩
            · first | exact int_succ k | exact int_wsucc hk2.out
            · rw [hst.out, hl1]
            · rw [hst.out, hl1, flatE_snoc]; exact hown6
            · exact (hrKH.out.alloc _).kept hgA (Or.inr fun e => hneK _ e.symm rfl)
            · rw [hst.out, hl1]
              intro g hg
              have e1 : g6 = g := by simpa [Value.ownBlock] using hg
              subst e1
              rcases hloc with h | h
              · exact hneK g6 h.symm
              · have := hgk.out
                simp at h
                omega
            · exact below_app hblK hownK hgA (Nat.le_refl _) hszk
            · first | exact meas_1 hk | exact meas_w hk hk2.out
          | false =>
            have hst : Hid (eJ r i (k + 1) = eJ r i k) := eJ_no hs
            rw [hs] at y0
            clear hs
            generalize eJ r i k = L at *
            go_wp2
            refine ⟨⟨k + 1, pk, ck, ?_, by rw [hst.out], hk, by rw [hst.out]; exact hownK, hrKH.out, by rw [hst.out]; exact hneK, hblK⟩, ?_⟩
            · first | exact int_succ k | exact int_wsucc hk2.out
            · first | exact meas_1 hk | exact meas_w hk hk2.out
        · have hki : ¬ (k : Int) < (n : Int) := by omega
          have e : k = n := by omega
          subst e
          have hst : Hid (eJ r i k = eL r (i + 1)) := eJ_end hnH.out (hzj.out i)
          clear hrK hneK
          go_wp2
          refine ⟨⟨i + 1, pk, ck, ?_, by rw [hst.out], hiH.out, by rw [← hst.out]; exact hownK, hblK⟩, ?_⟩
          · first | exact int_succ i | exact int_wsucc hi2.out
          · first | exact meas_1 hiH.out | exact meas_w hiH.out hi2.out
    · have hii : ¬ (i : Int) < (n : Int) := by omega
      have e : i = n := by omega
      subst e
      have hst : Hid (eL r 60 = eL r i) := eL_end hzi.out 60 hnH.out
      clear hbe
      go_wp2
      go_ret
      rw [hst.out]
      exact ⟨p, c, rfl, hown, hbl⟩
end Go.Proofs.YtncjnmlgkhngaaaDoor
