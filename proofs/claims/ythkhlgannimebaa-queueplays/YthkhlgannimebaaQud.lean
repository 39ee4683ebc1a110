/- The library's heap over the pile: down, walked. -/
import Derived.Test.YthkhlgannimebaaQuh
namespace Go.Proofs.Ythkhlgannimebaa
open Go.RowKit Go.Maps Go.Sort Qum
set_option linter.unusedSectionVars false

/-- What sinking one leaves: it has come to the place i. -/
def DwnR (B qb : Nat) (tn : Int) (bm g cap n i0 : Nat) (H : List Nd) (w w' : World) (i : Nat) : Prop :=
  ∃ H', Pl B w' qb tn bm (.slice (some ⟨g, 0, none⟩) H.length cap) H' ∧ H'.length = H.length ∧ H'.Perm H ∧ (i0 < i → Hp H' n) ∧ (¬ i0 < i → UpF (fx H') n i0) ∧ (∀ k, n ≤ k → nd H' k = nd H k) ∧ Fq B none w w'

/-- Where one is that sinks: the places beside are right. -/
structure DwnI (B qb : Nat) (tn : Int) (bm g cap n i0 : Nat) (H : List Nd) (w w' : World) (i : Nat) (H' : List Nd) : Prop where
  lt : i < n
  dn : DnF (fx H') n i0 i
  pl : Pl B w' qb tn bm (.slice (some ⟨g, 0, none⟩) H'.length cap) H'
  len : H'.length = H.length
  perm : H'.Perm H
  rest : ∀ k, n ≤ k → nd H' k = nd H k
  fq : Fq B none w w'

section
variable {B qb bm g cap n i0 i : Nat} {tn : Int} {H H' : List Nd} {w wr w1 : World}
theorem DwnI.fin (h : DwnI B qb tn bm g cap n i0 H w wr i H') (hm : ∀ k, 0 < k → k < n → (k - 1) / 2 = i → ltQ (fx H' k) (fx H' i) = false) (hP : Pl B w1 qb tn bm (.slice (some ⟨g, 0, none⟩) H'.length cap) H') (hF : Fq B none wr w1) : DwnR B qb tn bm g cap n i0 H w w1 i := by
  refine ⟨H', by rw [← h.len]; exact hP, h.len, h.perm, fun e => dn_moved h.dn e hm, fun e => ?_, h.rest, h.fq.trans hF⟩
  have := h.dn.2.1
  exact dn_still h.dn (by omega) hm
theorem dn_stop {c : Nat} (hm : ∀ k, 0 < k → k < n → (k - 1) / 2 = i → ltQ (fx H' k) (fx H' c) = false) (hc : ltQ (fx H' c) (fx H' i) = false) : ∀ k, 0 < k → k < n → (k - 1) / 2 = i → ltQ (fx H' k) (fx H' i) = false :=
  fun k k0 k1 k2 => swoQ.ntrans _ _ _ (hm k k0 k1 k2) hc
theorem DwnI.next (h : DwnI B qb tn bm g cap n i0 H w wr i H') (hn : n ≤ H'.length) {c : Nat} (c0 : 0 < c) (cn : c < n) (hp : (c - 1) / 2 = i) (hm : ∀ k, 0 < k → k < n → (k - 1) / 2 = i → ltQ (fx H' k) (fx H' c) = false) (hc : ltQ (fx H' c) (fx H' i) = true) (hP : Pl B w1 qb tn bm (.slice (some ⟨g, 0, none⟩) H'.length cap) (swq H' i c)) (hF : Fq B none wr w1) :
    DwnI B qb tn bm g cap n i0 H w w1 c (swq H' i c) := by
  have hi1 : i < H'.length := by have := h.lt; omega
  have hcl : c < H'.length := by omega
  refine ⟨cn, ?_, by rw [swq_len]; exact hP, by rw [swq_len]; exact h.len, (swq_perm hi1 hcl).trans h.perm, ?_, h.fq.trans hF⟩
  · refine dn_step h.dn cn c0 hp hm hc ?_ ?_ ?_
    · simp only [fx]; rw [nd_swq hi1 hcl, if_neg (by omega), if_pos rfl]
    · simp only [fx]; rw [nd_swq hi1 hcl, if_pos rfl]
    · intro k _ a1 a2
      simp only [fx]; rw [nd_swq hi1 hcl, if_neg a2, if_neg a1]
  · intro k hkn
    rw [nd_swq hi1 hcl, if_neg (by omega), if_neg (by omega)]
    exact h.rest k hkn
theorem min_left (h2 : ¬ ltQ (fx H' (2 * i + 2)) (fx H' (2 * i + 1)) = true) : ∀ k, 0 < k → k < n → (k - 1) / 2 = i → ltQ (fx H' k) (fx H' (2 * i + 1)) = false := fun k k0 kn kp => by
  rcases (show k = 2 * i + 1 ∨ k = 2 * i + 2 by omega) with rfl | rfl
  · exact swoQ.irrefl _
  · simpa using h2
theorem min_right (h2 : ltQ (fx H' (2 * i + 2)) (fx H' (2 * i + 1)) = true) : ∀ k, 0 < k → k < n → (k - 1) / 2 = i → ltQ (fx H' k) (fx H' (2 * i + 2)) = false := fun k k0 kn kp => by
  rcases (show k = 2 * i + 1 ∨ k = 2 * i + 2 by omega) with rfl | rfl
  · have := h2; simp [ltQ] at this ⊢; omega
  · exact swoQ.irrefl _
theorem min_one (h2 : ¬ 2 * i + 2 < n) : ∀ k, 0 < k → k < n → (k - 1) / 2 = i → ltQ (fx H' k) (fx H' (2 * i + 1)) = false := fun k k0 kn kp => by
  rcases (show k = 2 * i + 1 by omega) with rfl
  exact swoQ.irrefl _
end

set_option maxHeartbeats 2000000 in
set_option maxRecDepth 100000 in
theorem down_any {B : Nat} {w : World} {qb bm : Nat} {tn : Int} {g cap n : Nat} {H : List Nd} (h : Pl B w qb tn bm (.slice (some ⟨g, 0, none⟩) H.length cap) H) {i0 : Nat} (hj : i0 < n) (hn : n ≤ H.length) (hl : H.length ≤ 1000) (hu : FxF (fx H) n i0) :
    Calls Try.prog 35 #[hv qb, .int .i64 i0, .int .i64 n] w fun e w' => ∃ i : Nat, e = .returned (.bool (decide (i0 < i))) ∧ DwnR B qb tn bm g cap n i0 H w w' i := by
  unfold hv
  go_enter Try.func35, Try.ntmps35
  go_wp2
  go_loopw [7] (fun iv wr => ∃ (i : Nat) (H' : List Nd), iv = .int .i64 i ∧ DwnI B qb tn bm g cap n i0 H w wr i H')
    (fun iv _ => n - (intOf iv).toNat)
  case atStart => exact ⟨i0, H, rfl, hj, dn_start hu, h, rfl, .refl _, fun _ _ => rfl, Fq.refl _ _ _⟩
  case round =>
    obtain ⟨i, H', rfl, hI⟩ := hrel
    have hi := hI.lt
    have hnn : n ≤ H'.length := by have := hI.len; omega
    have hl' : H'.length ≤ 1000 := by have := hI.len; omega
    have hi1000 : (i : Int) ≤ 1000 := by omega
    clear h hu hj hn hl
    have hi1 : i < H'.length := by omega
    have hP := hI.pl
    have hm := meth_less _ _ _ hP.slot
    have hI' : Hid (DwnI B qb tn bm g cap n i0 H w wr i H') := hI
    clear hI
    by_cases h1 : 2 * i + 1 < n
    · have h1z : 2 * (i : Int) + 1 < (n : Int) := by omega
      have hj1 : 2 * i + 1 < H'.length := by omega
      have zj1 : Hid ((2 * (i : Int) + 1) = ((2 * i + 1 : Nat) : Int)) := by show _ = _; omega
      by_cases h2 : 2 * i + 2 < n
      · have h2z : 2 * (i : Int) + 1 + 1 < (n : Int) := by omega
        have hj2 : 2 * i + 2 < H'.length := by omega
        have zj2 : Hid ((2 * (i : Int) + 1 + 1) = ((2 * i + 2 : Nat) : Int)) := by show _ = _; omega
        cases hlt : ltQ (fx H' (2 * i + 2)) (fx H' (2 * i + 1))
        · have hmin : Hid (∀ k, 0 < k → k < n → (k - 1) / 2 = i → ltQ (fx H' k) (fx H' (2 * i + 1)) = false) := min_left (by simp [hlt])
          have hless := less_pl hP hj2 hj1 hlt
          rw [← zj1.out, ← zj2.out] at hless
          clear hlt
          cases hlc : ltQ (fx H' (2 * i + 1)) (fx H' i)
          · go_wp2_with (first | (go_at_call 77; first | (refine hless.mono ?_; rintro e w1 ⟨rfl, hP1, hF1⟩; have hm1 := meth_less _ _ _ hP1.slot; have hless1 := less_pl hP1 hj1 hi1 hlc; rw [← zj1.out] at hless1; clear hm hless) | (refine hless1.mono ?_; rintro e w2 ⟨rfl, hP2, hF2⟩; clear hm1 hless1)) | go_in)
            go_ret
            exact ⟨i, by simp, hI'.out.fin (dn_stop hmin.out hlc) hP2 (hF1.trans hF2)⟩
          · go_wp2_with (first | (go_at_call 77; first | (refine hless.mono ?_; rintro e w1 ⟨rfl, hP1, hF1⟩; have hm1 := meth_less _ _ _ hP1.slot; have hless1 := less_pl hP1 hj1 hi1 hlc; rw [← zj1.out] at hless1; clear hm hless) | (refine hless1.mono ?_; rintro e w2 ⟨rfl, hP2, hF2⟩; clear hm1 hless1; have hm2 := meth_swap _ _ _ hP2.slot)) | (go_at_call 78; have hsw := swap_any hP2 hi1 hj1 (by omega); rw [← zj1.out] at hsw; refine hsw.mono ?_; rintro e w3 ⟨rfl, hP3, hF3⟩; clear hsw hm2) | go_in)
            refine ⟨⟨2 * i + 1, swq H' i (2 * i + 1), by rw [← zj1.out], hI'.out.next hnn (by omega) (by omega) (by omega) hmin.out hlc hP3 ((hF1.trans hF2).trans hF3)⟩, ?_⟩
            simp [intOf]; omega
        · have hmin : Hid (∀ k, 0 < k → k < n → (k - 1) / 2 = i → ltQ (fx H' k) (fx H' (2 * i + 2)) = false) := min_right hlt
          have hless := less_pl hP hj2 hj1 hlt
          rw [← zj1.out, ← zj2.out] at hless
          clear hlt
          cases hlc : ltQ (fx H' (2 * i + 2)) (fx H' i)
          · go_wp2_with (first | (go_at_call 77; first | (refine hless.mono ?_; rintro e w1 ⟨rfl, hP1, hF1⟩; have hm1 := meth_less _ _ _ hP1.slot; have hless1 := less_pl hP1 hj2 hi1 hlc; rw [← zj2.out] at hless1; clear hm hless) | (refine hless1.mono ?_; rintro e w2 ⟨rfl, hP2, hF2⟩; clear hm1 hless1)) | go_in)
            go_ret
            exact ⟨i, by simp, hI'.out.fin (dn_stop hmin.out hlc) hP2 (hF1.trans hF2)⟩
          · go_wp2_with (first | (go_at_call 77; first | (refine hless.mono ?_; rintro e w1 ⟨rfl, hP1, hF1⟩; have hm1 := meth_less _ _ _ hP1.slot; have hless1 := less_pl hP1 hj2 hi1 hlc; rw [← zj2.out] at hless1; clear hm hless) | (refine hless1.mono ?_; rintro e w2 ⟨rfl, hP2, hF2⟩; clear hm1 hless1; have hm2 := meth_swap _ _ _ hP2.slot)) | (go_at_call 78; have hsw := swap_any hP2 hi1 hj2 (by omega); rw [← zj2.out] at hsw; refine hsw.mono ?_; rintro e w3 ⟨rfl, hP3, hF3⟩; clear hsw hm2) | go_in)
            refine ⟨⟨2 * i + 2, swq H' i (2 * i + 2), by rw [← zj2.out], hI'.out.next hnn (by omega) (by omega) (by omega) hmin.out hlc hP3 ((hF1.trans hF2).trans hF3)⟩, ?_⟩
            simp [intOf]; omega
      · have h2z : ¬ 2 * (i : Int) + 1 + 1 < (n : Int) := by omega
        have hmin : Hid (∀ k, 0 < k → k < n → (k - 1) / 2 = i → ltQ (fx H' k) (fx H' (2 * i + 1)) = false) := min_one h2
        cases hlc : ltQ (fx H' (2 * i + 1)) (fx H' i)
        · have hless1 := less_pl hP hj1 hi1 hlc
          rw [← zj1.out] at hless1
          go_wp2_with (first | (go_at_call 77; refine hless1.mono ?_; rintro e w2 ⟨rfl, hP2, hF2⟩; clear hm hless1) | go_in)
          go_ret
          exact ⟨i, by simp, hI'.out.fin (dn_stop hmin.out hlc) hP2 hF2⟩
        · have hless1 := less_pl hP hj1 hi1 hlc
          rw [← zj1.out] at hless1
          go_wp2_with (first | (go_at_call 77; refine hless1.mono ?_; rintro e w2 ⟨rfl, hP2, hF2⟩; clear hm hless1; have hm2 := meth_swap _ _ _ hP2.slot) | (go_at_call 78; have hsw := swap_any hP2 hi1 hj1 (by omega); rw [← zj1.out] at hsw; refine hsw.mono ?_; rintro e w3 ⟨rfl, hP3, hF3⟩; clear hsw hm2) | go_in)
          refine ⟨⟨2 * i + 1, swq H' i (2 * i + 1), by rw [← zj1.out], hI'.out.next hnn (by omega) (by omega) (by omega) hmin.out hlc hP3 (hF2.trans hF3)⟩, ?_⟩
          simp [intOf]; omega
    · have h1z : ¬ 2 * (i : Int) + 1 < (n : Int) := by omega
      clear hm
      go_wp2
      go_ret
      exact ⟨i, by simp, hI'.out.fin (fun k k0 kn kp => by omega) hP (Fq.refl _ _ _)⟩
end Go.Proofs.Ythkhlgannimebaa
