/- ListGraham, walked. -/
import Derived.Test.YthfpdbogbmccjaaJs
namespace Go.Proofs.Ythfpdbogbmccjaa
open Go.RowKit
set_option linter.unusedSectionVars false
set_option linter.unusedVariables false

set_option maxHeartbeats 1000000 in
set_option maxRecDepth 100000 in
theorem sum_any {w : World} {q : Option Addr} {l : List Int} {c : Nat} (h : Nums w q l) (hn : l.length ≤ 1000) (hb : ∀ x ∈ l, 0 ≤ x ∧ x ≤ 1099511627776) :
    Calls Try.prog 20 #[.slice q l.length c] w fun e w' => e = .returned (.int .i64 (sumR l)) ∧ w' = w := by
  have hnH : Hid (l.length ≤ 1000) := hn
  have hbH : Hid (∀ j, j ≤ l.length → 0 ≤ sumR (l.take j) ∧ sumR (l.take j) ≤ (j : Int) * 1099511627776) := by
    intro j
    induction j with
    | zero => intro _; simp [sumR]
    | succ j ih =>
      intro hj
      have h1 := ih (by omega)
      have h2 := hb _ (nm_mem (show j < l.length by omega))
      rw [sumR_take (by omega)]
      omega
  have hb0 := hb
  clear hn hb
  go_enter Try.func20, Try.ntmps20
  go_wp2
  go_loopw [3, 8] (fun sv iv wr => ∃ j : Nat, iv = .int .i64 j ∧ sv = .int .i64 (sumR (l.take j)) ∧ j ≤ l.length ∧ wr = w)
    (fun _ iv _ => l.length - (intOf iv).toNat)
  case atStart => exact ⟨0, rfl, rfl, Nat.zero_le _, rfl⟩
  case round =>
    obtain ⟨j, rfl, rfl, hjl, rfl⟩ := hrel
    by_cases hj : j < l.length
    · rcases h with h0 | ⟨b, o, rfl, hA⟩
      · omega
      have z0 := hA.c j hj
      have hji : (j : Int) < (l.length : Int) := by omega
      have hjH : Hid (j < l.length) := hj
      have hj2 : Hid (j ≤ 100000) := by have := hnH.out; show _ ≤ _; omega
      have h1 := hbH.out j hjl
      have h2 := hb0 _ (nm_mem hj)
      have hst : Hid (sumR (l.take (j + 1)) = sumR (l.take j) + nm l j) := sumR_take hj
      generalize nm l j = x at *
      generalize sumR (l.take j) = S at *
      have hw : Hid (wrap64 (S + x) = S + x) := by show _ = _; have := hnH.out; unfold wrap64; omega
      clear hA h1 h2 hj hb0
      go_wp2
      refine ⟨⟨j + 1, ?_, ?_, hjH.out, by first | rfl | trivial⟩, ?_⟩
      · first | exact int_succ j | exact int_wsucc hj2.out
      · rw [hst.out]; first | exact congrArg _ hw.out | rfl
      · first | exact meas_1 hjH.out | exact meas_w hjH.out hj2.out
    · have hji : ¬ (j : Int) < (l.length : Int) := by omega
      have e : j = l.length := by omega
      subst e
      have e2 : sumR (l.take l.length) = sumR l := by rw [List.take_length]
      rw [e2]
      clear hb0 hbH
      go_wp2
      go_ret
      exact ⟨rfl, rfl⟩

set_option maxHeartbeats 1000000 in
set_option maxRecDepth 100000 in
theorem lists_any (w : World) : Calls Try.prog 19 #[] w fun e w' => e = .returned (.bool true) ∧ Below w.heap.size w w' := by
  have hn := heap_alloc_new w (.cells #[.int .i64 3, .int .i64 4] 2)
  have hN : Nums (w.alloc (.cells #[.int .i64 3, .int .i64 4] 2)) (some ⟨w.heap.size, 0, none⟩) [3, 4] := Or.inr ⟨w.heap.size, 0, rfl, by simp, fun j hj => by
    have e : j = 0 ∨ j = 1 := by simp at hj; omega
    rcases e with rfl | rfl
    · exact (cell_of_row _ _ 0 _ _ _ hn).trans rfl
    · exact (cell_of_row _ _ 1 _ _ _ hn).trans rfl⟩
  have hbA : Hid (Below w.heap.size w (w.alloc (.cells #[.int .i64 3, .int .i64 4] 2))) := (Below.refl _ _).alloc (Nat.le_refl _) _
  have hsz : Hid (w.heap.size ≤ (w.alloc (.cells #[.int .i64 3, .int .i64 4] 2)).heap.size) := hbA.out.size
  have hf := Run_ok (c := 2) (m := 2) hN (by decide)
  have e1 : xm (lsA [3, 4] 2 (List.range [(3 : Int), 4].length)).W 2 = 4 := by decide
  rw [e1] at hf
  clear hn hN e1
  simp only [List.length_cons, List.length_nil, Nat.zero_add] at hf
  go_enter Try.func19, Try.ntmps19
  go_wp2_with (first
    | (go_at_call 7; refine hf.mono ?_; rintro e w2 ⟨⟨g, rfl, hr⟩, hb⟩; clear hf)
    | fail)
  go_ret
  exact ⟨ret_b (by first | rfl | simp), hbA.out.trans (hb.mono hsz.out)⟩

theorem wrap_s {x : Int} (h : -1000000000000000000 ≤ x ∧ x ≤ 1000000000000000000) : wrap64 x = x := by unfold wrap64; omega
/-- The longest one, as the laws add it up. -/
def lgF (l : List Int) : Nat → Int
  | 0 => 0
  | k + 1 => max (lgF l k) (nm l k)
theorem lgF_ge {l : List Int} : ∀ {k} i, i < k → nm l i ≤ lgF l k := by
  intro k
  induction k with
  | zero => intro i h; omega
  | succ k ih =>
    intro i hi
    rw [lgF]
    by_cases e : i = k
    · subst e; omega
    · have := ih i (by omega); omega
theorem lgF_is {l : List Int} : ∀ k, lgF l k = 0 ∨ ∃ i, i < k ∧ lgF l k = nm l i := by
  intro k
  induction k with
  | zero => exact Or.inl rfl
  | succ k ih =>
    rw [lgF]
    by_cases h : lgF l k ≤ nm l k
    · exact Or.inr ⟨k, by omega, by omega⟩
    · rw [show max (lgF l k) (nm l k) = lgF l k by omega]
      rcases ih with h2 | ⟨i, hi, h2⟩
      · exact Or.inl h2
      · exact Or.inr ⟨i, by omega, h2⟩
theorem lgF_bnd {l : List Int} (hl : ∀ x ∈ l, 0 ≤ x ∧ x ≤ 1000000000) {k : Nat} (hk : k ≤ l.length) : 0 ≤ lgF l k ∧ lgF l k ≤ 1000000000 := by
  induction k with
  | zero => show (0 : Int) ≤ 0 ∧ (0 : Int) ≤ _; omega
  | succ k ih =>
    have h1 := ih (by omega)
    have h2 := hl _ (nm_mem (show k < l.length by omega))
    rw [lgF]
    omega
theorem sumR_bounds0 {l : List Int} {C : Int} (hl : ∀ x ∈ l, 0 ≤ x ∧ x ≤ C) : 0 ≤ sumR l ∧ sumR l ≤ (l.length : Int) * C := by
  induction l with
  | nil => simp [sumR]
  | cons x r ih =>
    have h1 := ih fun y hy => hl y (List.mem_cons_of_mem _ hy)
    have h2 := hl x (List.mem_cons_self ..)
    have e : ((r.length + 1 : Nat) : Int) * C = (r.length : Int) * C + C := mul_succ' _ _
    rw [List.length_cons, sumR, e]
    omega
/-- What ListGraham asks. -/
theorem graham_all {l : List Int} {m : Nat} (hm : 1 ≤ m ∧ m ≤ 20) (hl : ∀ x ∈ l, 0 ≤ x ∧ x ≤ 1000000000) (hn : l.length ≤ 60) {S : Int} (hS : S = xm (lsA l m (List.range l.length)).W m) {L : Int} (hL : L = lgF l l.length) :
    (0 ≤ S ∧ S ≤ 1000000000000) ∧ (m : Int) * S ≤ sumR l + ((m : Int) - 1) * L ∧ L ≤ S ∧ sumR l ≤ (m : Int) * S := by
  have hLb := lgF_bnd hl (Nat.le_refl l.length)
  rw [← hL] at hLb
  have hle : ∀ y ∈ l, 0 ≤ y ∧ y ≤ L := fun y hy => by
    obtain ⟨j, hj, rfl⟩ := List.getElem_of_mem hy
    refine ⟨(hl _ hy).1, ?_⟩
    rw [hL, ← nm_get hj]
    exact lgF_ge j hj
  have hR : ∀ i ∈ List.range l.length, i < l.length := fun i hi => List.mem_range.1 hi
  have hg := lsA_grh hm.1 hLb.1 hle hR
  rw [map_nm] at hg
  have hb : ∀ b, 0 ≤ (lsA l m (List.range l.length)).W b ∧ (lsA l m (List.range l.length)).W b ≤ 1000000000000 := lsA_b60 hl hR (by simp; omega)
  have hhas := lsA_has hm.1 (fun y hy => (hl y hy).1) (List.range l.length) ⟨fun _ => 0, fun _ => 0⟩ hR (fun b _ => Int.le_refl _)
  obtain ⟨c, hc, e⟩ := xm_is (lsA l m (List.range l.length)).W hm.1
  refine ⟨by rw [hS, e]; exact hb c, by rw [hS, e]; exact hg.gr c hc, ?_, ?_⟩
  · rcases lgF_is (l := l) l.length with h0 | ⟨i, hi, h0⟩
    · rw [hL, h0, hS, e]; exact (hb c).1
    · obtain ⟨b, hbm, h1⟩ := hhas i (List.mem_range.2 hi)
      rw [hL, h0, hS]
      exact Int.le_trans h1 (xm_ge _ b hbm)
  · rw [← hg.tot]
    exact sumF_le fun b hbm => by rw [hS]; exact xm_ge _ b hbm
theorem span_run {l : List Int} {m : Nat} (hm : 1 ≤ m) : spR m l ((List.range l.length).map (lsA l m (List.range l.length)).on) = (xm (lsA l m (List.range l.length)).W m, 0) := by
  have hon := lsA_on (l := l) hm (List.range l.length) ⟨fun _ => 0, fun _ => 0⟩ (fun i => ⟨Int.le_refl _, by show (0 : Int) < m; omega⟩)
  unfold spR
  rw [if_pos]
  · refine congrArg (fun x => (x, (0 : Int))) (xm_congr hm fun b _ => ?_)
    rw [lsA_range l m l.length]
    refine congrFun (spF_congr fun i hi => ?_) b
    simp [nm, hi]
  · refine ⟨by simp, List.all_eq_true.2 fun x hx => ?_⟩
    obtain ⟨i, _, rfl⟩ := List.mem_map.1 hx
    exact decide_eq_true (hon i)
/-- A number at most 20 times one that is below a million of millions. -/
theorem mul20 {a b : Int} (ha : 0 ≤ a ∧ a ≤ 20) (hb : 0 ≤ b ∧ b ≤ 1000000000000) : 0 ≤ a * b ∧ a * b ≤ 20000000000000 := by
  refine ⟨Int.mul_nonneg ha.1 hb.1, ?_⟩
  have h1 : a * b ≤ 20 * b := Int.mul_le_mul_of_nonneg_right ha.2 hb.1
  omega

set_option maxHeartbeats 2000000 in
set_option maxRecDepth 100000 in
theorem listGraham_walk (m : Int) (q : Option Addr) (l : List Int) (c : Nat) (w : World) (h : Nums w q l) :
    Calls Try.prog 4 #[.int .i64 m, .slice q l.length c] w fun e w' => e = .returned (.bool true) ∧ Below w.heap.size w w' := by
  have hp := lists_any w
  have hNH : Hid (∀ w', Below w.heap.size w w' → Nums w' q l) := fun w' hb => h.below hb (Nat.le_refl _)
  by_cases hk : kl m l = 0
  · obtain ⟨k1, k2, k3⟩ := kl_ok hk
    obtain ⟨m, rfl⟩ : ∃ n : Nat, m = (n : Int) := ⟨m.toNat, by omega⟩
    have hF : Hid (∀ w2, Below w.heap.size w w2 → Calls Try.prog 7 #[.int .i64 (m : Int), .slice q l.length c] w2 fun e w' => (∃ g, e = .returned (.tuple #[.slice (some ⟨g, 0, none⟩) l.length l.length, .int .i64 (xm (lsA l m (List.range l.length)).W m), .int .i64 0]) ∧ w'.ownsRow w2.heap.size 3 1 (.slice (some ⟨g, 0, none⟩) l.length l.length) l.length (numf (lsA l m (List.range l.length)).on l.length)) ∧ Below w2.heap.size w2 w') := fun w2 hb => Run_ok (hNH.out w2 hb) hk
    have hSp : Hid (∀ (w2 : World) (g : Nat), Below w.heap.size w w2 → Nums w2 (some ⟨g, 0, none⟩) ((List.range l.length).map (lsA l m (List.range l.length)).on) → Calls Try.prog 10 #[.int .i64 (m : Int), .slice q l.length c, .slice (some ⟨g, 0, none⟩) l.length l.length] w2 fun e w' => e = .returned (.tuple #[.int .i64 (xm (lsA l m (List.range l.length)).W m), .int .i64 0]) ∧ Below w2.heap.size w2 w') := fun w2 g hb hN => by
      have h2 := Span_ok (m := m) (c := c) (cb := l.length) (hNH.out w2 hb) hN hk
      rw [List.length_map, List.length_range, span_run (by omega)] at h2
      exact h2
    have hS : Hid (∀ w2, Below w.heap.size w w2 → Calls Try.prog 20 #[.slice q l.length c] w2 fun e w' => e = .returned (.int .i64 (sumR l)) ∧ w' = w2) := fun w2 hb => sum_any (hNH.out w2 hb) (by omega) (fun x hx => by have := k3 x hx; omega)
    have hm : 1 ≤ m ∧ m ≤ 20 := by omega
    have hfin : Hid (∀ S L, S = xm (lsA l m (List.range l.length)).W m → L = lgF l l.length → (wrap64 ((m : Int) * S) ≤ wrap64 (sumR l + wrap64 (wrap64 ((m : Int) - 1) * L))) ∧ L ≤ S ∧ sumR l ≤ wrap64 ((m : Int) * S)) := fun S L hS hL => by
      obtain ⟨a0, a1, a2, a3⟩ := graham_all hm k3 k2 hS hL
      have hLb := lgF_bnd k3 (Nat.le_refl l.length)
      rw [← hL] at hLb
      have hsb := sumR_bounds0 k3
      have e1 := mul20 (a := (m : Int)) (b := S) (by omega) a0
      have e2 := mul20 (a := (m : Int) - 1) (b := L) (by omega) (by omega)
      have w1 : wrap64 ((m : Int) * S) = (m : Int) * S := wrap_s (by omega)
      have w2 : wrap64 ((m : Int) - 1) = (m : Int) - 1 := wrap_s (by omega)
      have w3 : wrap64 (((m : Int) - 1) * L) = ((m : Int) - 1) * L := wrap_s (by omega)
      have w4 : wrap64 (sumR l + ((m : Int) - 1) * L) = sumR l + ((m : Int) - 1) * L := wrap_s (by omega)
      rw [w1, w2, w3, w4]
      exact ⟨a1, a2, a3⟩
    have hnH : Hid (l.length ≤ 60) := k2
    have hrw : Hid (∀ (w3 : World) g B, w3.ownsRow B 3 1 (.slice (some ⟨g, 0, none⟩) l.length l.length) l.length (numf (lsA l m (List.range l.length)).on l.length) → Nums w3 (some ⟨g, 0, none⟩) ((List.range l.length).map (lsA l m (List.range l.length)).on)) := fun w3 g B hr => nums_row hr
    clear h hk k1 k2 k3 hm
    generalize hSe : xm (lsA l m (List.range l.length)).W m = S at *
    have hSH : Hid (S = xm (lsA l m (List.range l.length)).W m) := hSe.symm
    clear hSe
    generalize hon : (lsA l m (List.range l.length)).on = on at *
    clear hon
    go_enter Try.func4, Try.ntmps4
    go_wp2_with (first
      | (go_at_call 19; refine hp.mono ?_; rintro e w2 ⟨rfl, hb⟩; clear hp)
      | (go_at_call 7; refine (hF.out _ hb).mono ?_; rintro e w3 ⟨⟨g, rfl, hr3⟩, hb3⟩; clear hF; have hb4 := hb.trans (hb3.mono hb.size); have hN3 := hrw.out _ _ _ hr3)
      | (go_at_call 10; refine (hSp.out _ _ hb4 hN3).mono ?_; rintro e w5 ⟨rfl, hb5⟩; clear hSp; have hb6 := hb4.trans (hb5.mono hb4.size))
      | fail)
    have hb6H : Hid _ := hb6
    clear hb hb3 hb4 hb5 hb6 hr3 hN3
    go_loopw [10, 40] (fun sv iv wr => ∃ j : Nat, iv = .int .i64 j ∧ sv = .int .i64 (lgF l j) ∧ j ≤ l.length ∧ wr = w5)
      (fun _ iv _ => l.length - (intOf iv).toNat)
    case atStart => exact ⟨0, rfl, rfl, Nat.zero_le _, rfl⟩
    case round =>
      obtain ⟨j, rfl, rfl, hjl, rfl⟩ := hrel
      by_cases hj : j < l.length
      · rcases hNH.out _ hb6H.out with h0 | ⟨b, o, rfl, hA⟩
        · omega
        have z0 := hA.c j hj
        have hji : (j : Int) < (l.length : Int) := by omega
        have hjH : Hid (j < l.length) := hj
        have hj2 : Hid (j ≤ 100000) := by have := hnH.out; show _ ≤ _; omega
        have hst : Hid (lgF l (j + 1) = max (lgF l j) (nm l j)) := rfl
        generalize nm l j = x at *
        generalize lgF l j = L at *
        clear hA hj
        go_wp2
        refine ⟨⟨j + 1, ?_, ?_, hjH.out, by first | rfl | trivial⟩, ?_⟩
        · first | exact int_succ j | exact int_wsucc hj2.out
        · rw [hst.out]; exact congrArg (Value.int .i64) (by split <;> omega)
        · first | exact meas_1 hjH.out | exact meas_w hjH.out hj2.out
      · have hji : ¬ (j : Int) < (l.length : Int) := by omega
        have e : j = l.length := by omega
        subst e
        obtain ⟨f1, f2, f3⟩ := hfin.out S (lgF l l.length) rfl rfl
        have fH : Hid (sumR l ≤ wrap64 ((m : Int) * S)) := f3
        clear hfin f3
        generalize lgF l l.length = L at *
        have hsum := hS.out _ hb6H.out
        generalize sumR l = T at *
        have f1d : decide (wrap64 ((m : Int) * S) ≤ wrap64 (T + wrap64 (wrap64 ((m : Int) - 1) * L))) = true := decide_eq_true f1
        have f2d : decide (L ≤ S) = true := decide_eq_true f2
        clear hjl
        go_wp2_with (first
          | (go_at_call 20; refine hsum.mono ?_; rintro e w7 ⟨rfl, hw'⟩; have hw'' := hw'.symm; subst hw'')
          | fail)
        go_ret
        exact ⟨ret_b (decide_eq_true fH.out), hb6H.out⟩
  · have hF : Hid (∀ w2, Below w.heap.size w w2 → Calls Try.prog 7 #[.int .i64 m, .slice q l.length c] w2 fun e w' => e = .returned (.tuple #[.slice none 0 0, .int .i64 0, .int .i64 (kl m l)]) ∧ w' = w2) := fun w2 hb => Run_bad m (hNH.out w2 hb) hk
    have hkb : (kl m l != 0) = true := by simpa using hk
    clear h hk
    go_enter Try.func4, Try.ntmps4
    go_wp2_with (first
      | (go_at_call 19; refine hp.mono ?_; rintro e w2 ⟨rfl, hb⟩; clear hp)
      | (go_at_call 7; refine (hF.out _ hb).mono ?_; rintro e w3 ⟨rfl, hw'⟩; have hw'' := hw'.symm; subst hw''; clear hF)
      | fail)
    go_ret
    exact ⟨ret_b (by first | rfl | simp), hb⟩
end Go.Proofs.Ythfpdbogbmccjaa
