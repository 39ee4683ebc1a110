/- Mathematics of first fit: at most one box is no more than half full; all that is in is all that there was. And the laws' helpers packs, sum. -/
import Derived.Test.YtfnkboegbclnaaaKfd
namespace Go.Proofs.Ytfnkboegbclnaaa
open Go.RowKit
set_option linter.unusedSectionVars false
set_option linter.unusedVariables false

def sumF (E : Nat → Int) : Nat → Int
  | 0 => 0
  | m + 1 => sumF E m + E m
theorem sumF_congr {E E' : Nat → Int} : ∀ {m : Nat}, (∀ b, b < m → E b = E' b) → sumF E m = sumF E' m := by
  intro m
  induction m with
  | zero => intro _; rfl
  | succ m ih => intro h; rw [sumF, sumF, ih fun b hb => h b (by omega), h m (by omega)]
theorem sumF_fp (E : Nat → Int) (b : Nat) (v : Int) : ∀ {m : Nat}, b < m → sumF (fp E b v) m = sumF E m - E b + v := by
  intro m
  induction m with
  | zero => intro h; omega
  | succ m ih =>
    intro h
    rw [sumF, sumF]
    by_cases e : b = m
    · subst e
      rw [fp_same, sumF_congr (E := fp E b v) (E' := E) fun c hc => fp_ne (by omega)]
      omega
    · rw [ih (by omega), fp_ne (fun x => e x.symm)]
      omega
theorem sumF_ge {E : Nat → Int} {a : Int} : ∀ {m : Nat}, (∀ b, b < m → a ≤ E b) → (m : Int) * a ≤ sumF E m := by
  intro m
  induction m with
  | zero => intro _; simp [sumF]
  | succ m ih =>
    intro h
    have h1 := ih fun b hb => h b (by omega)
    have h2 := h m (by omega)
    have e : ((m + 1 : Nat) : Int) * a = (m : Int) * a + a := by rw [Int.natCast_add, Int.add_mul]; simp
    rw [sumF, e]
    omega
theorem sumF_le {E : Nat → Int} {a : Int} : ∀ {m : Nat}, (∀ b, b < m → E b ≤ a) → sumF E m ≤ (m : Int) * a := by
  intro m
  induction m with
  | zero => intro _; simp [sumF]
  | succ m ih =>
    intro h
    have h1 := ih fun b hb => h b (by omega)
    have h2 := h m (by omega)
    have e : ((m + 1 : Nat) : Int) * a = (m : Int) * a + a := by rw [Int.natCast_add, Int.add_mul]; simp
    rw [sumF, e]
    omega
theorem sumF_two (E : Nat → Int) : ∀ m : Nat, sumF (fun b => 2 * E b) m = 2 * sumF E m := by
  intro m
  induction m with
  | zero => rfl
  | succ m ih => rw [sumF, sumF, ih]; omega
/-- JOHNSON: where any two are more than size, all are more than half of all but one. -/
theorem half_sum {u : Nat → Int} {size : Int} {m : Nat} (hm : 1 ≤ m) (hu : ∀ b, b < m → 1 ≤ u b) (hp : ∀ p q, p < q → q < m → size < u p + u q) (hs : 1 ≤ size) : ((m : Int) - 1) * size < 2 * sumF u m := by
  by_cases h : ∃ b, b < m ∧ 2 * u b ≤ size
  · obtain ⟨b, hb, hb2⟩ := h
    have h1 : ∀ c, c < m → size - u b ≤ fp u b (size - u b) c := fun c hc => by
      by_cases e : c = b
      · subst e; rw [fp_same]; exact Int.le_refl _
      · rw [fp_ne e]
        rcases Nat.lt_or_gt_of_ne e with h2 | h2
        · have := hp c b h2 hb; omega
        · have := hp b c h2 hc; omega
    have h2 := sumF_ge h1
    rw [sumF_fp u b _ hb] at h2
    have h3 := hu b hb
    obtain ⟨k, hk⟩ : ∃ k, m = k + 1 := ⟨m - 1, by omega⟩
    have e1 : (m : Int) * (size - u b) = (k : Int) * (size - u b) + (size - u b) := by rw [hk, Int.natCast_add, Int.add_mul]; simp
    have e2 : ((m : Int) - 1) * size = (k : Int) * size := by rw [hk]; simp
    have h4 : (k : Int) * size ≤ (k : Int) * (2 * (size - u b)) := Int.mul_le_mul_of_nonneg_left (by omega) (by omega)
    have e3 : (k : Int) * (2 * (size - u b)) = 2 * ((k : Int) * (size - u b)) := by rw [Int.mul_left_comm]
    rw [e2]
    rw [e1] at h2
    rw [e3] at h4
    omega
  · have h1 : ∀ c, c < m → size ≤ (fun b => 2 * u b) c := fun c hc => by
      have : ¬ 2 * u c ≤ size := fun x => h ⟨c, hc, x⟩
      show size ≤ 2 * u c
      omega
    have h2 := sumF_ge h1
    rw [sumF_two] at h2
    have e2 : ((m : Int) - 1) * size = (m : Int) * size - size := by rw [Int.sub_mul]; simp
    rw [e2]
    omega
/-- What is true of first fit's boxes: all that is in, no two with room for both, none empty. -/
structure Fit (size : Int) (s : Fs) (T : Int) : Prop where
  tot : sumF (fun b => size - s.rm b) s.m = T
  two : ∀ p q, p < q → q < s.m → s.rm p + s.rm q < size
  lo : ∀ b, b < s.m → 0 ≤ s.rm b
  some : ∀ b, b < s.m → s.rm b + 1 ≤ size
theorem Fit.step {l : List Int} {size : Int} {i : Nat} {s : Fs} {T : Int} (h : Fit size s T) (hx : 1 ≤ nm l i ∧ nm l i ≤ size) : Fit size (fst l size s i) (T + nm l i) := by
  unfold fst
  cases e : ((List.range s.m).map s.rm).findIdx? (fun r => decide (nm l i ≤ r)) with
  | some b =>
    obtain ⟨hj, h1, _⟩ := List.findIdx?_eq_some_iff_getElem.1 e
    rw [rm_get hj] at h1
    have hb : b < s.m := by simpa using hj
    have h2 : nm l i ≤ s.rm b := of_decide_eq_true h1
    have hle : ∀ c, fp s.rm b (s.rm b - nm l i) c ≤ s.rm c := fun c => by
      by_cases ec : c = b
      · rw [ec, fp_same]; omega
      · rw [fp_ne ec]; exact Int.le_refl _
    refine ⟨?_, fun p q hpq hq => ?_, fun c hc => ?_, fun c hc => ?_⟩
    · show sumF (fun c => size - fp s.rm b (s.rm b - nm l i) c) s.m = _
      have e2 : sumF (fun c => size - fp s.rm b (s.rm b - nm l i) c) s.m = sumF (fp (fun c => size - s.rm c) b (size - (s.rm b - nm l i))) s.m := sumF_congr fun c _ => by
        unfold fp
        by_cases ec : c = b
        · rw [if_pos ec, if_pos ec]
        · rw [if_neg ec, if_neg ec]
      rw [e2, sumF_fp _ _ _ hb, h.tot]
      omega
    · show fp s.rm b (s.rm b - nm l i) p + fp s.rm b (s.rm b - nm l i) q < size
      have := hle p; have := hle q; have := h.two p q hpq hq; omega
    · show 0 ≤ fp s.rm b (s.rm b - nm l i) c
      by_cases ec : c = b
      · rw [ec, fp_same]; omega
      · rw [fp_ne ec]; exact h.lo c hc
    · show fp s.rm b (s.rm b - nm l i) c + 1 ≤ size
      have := hle c; have := h.some c hc; omega
  | none =>
    have hno : ∀ c, c < s.m → s.rm c < nm l i := fun c hc => by
      have := List.findIdx?_eq_none_iff.1 e (s.rm c) (List.mem_map.2 ⟨c, List.mem_range.2 hc, rfl⟩)
      have := of_decide_eq_false this
      omega
    have hf : ∀ c, fp (fp s.rm s.m size) s.m (size - nm l i) c = if c = s.m then size - nm l i else s.rm c := fun c => by
      unfold fp
      by_cases ec : c = s.m
      · rw [if_pos ec, if_pos ec]
      · rw [if_neg ec, if_neg ec, if_neg ec]
    refine ⟨?_, fun p q hpq hq => ?_, fun c hc => ?_, fun c hc => ?_⟩
    · show sumF (fun c => size - fp (fp s.rm s.m size) s.m (size - nm l i) c) (s.m + 1) = _
      rw [sumF, sumF_congr (E' := fun c => size - s.rm c) fun c hc => by rw [hf, if_neg (by omega)], h.tot, hf, if_pos rfl]
      omega
    · show fp (fp s.rm s.m size) s.m (size - nm l i) p + fp (fp s.rm s.m size) s.m (size - nm l i) q < size
      have hq' : q < s.m + 1 := hq
      rw [hf, hf, if_neg (by omega)]
      by_cases eq : q = s.m
      · rw [if_pos eq]; have := hno p (by omega); omega
      · rw [if_neg eq]; exact h.two p q hpq (by omega)
    · show 0 ≤ fp (fp s.rm s.m size) s.m (size - nm l i) c
      have hc' : c < s.m + 1 := hc
      rw [hf]
      by_cases eq : c = s.m
      · rw [if_pos eq]; omega
      · rw [if_neg eq]; exact h.lo c (by omega)
    · show fp (fp s.rm s.m size) s.m (size - nm l i) c + 1 ≤ size
      have hc' : c < s.m + 1 := hc
      rw [hf]
      by_cases eq : c = s.m
      · rw [if_pos eq]; omega
      · rw [if_neg eq]; exact h.some c (by omega)
def sumR : List Int → Int
  | [] => 0
  | x :: r => x + sumR r
theorem sumR_perm {a b : List Int} (h : a.Perm b) : sumR a = sumR b := by
  induction h with
  | nil => rfl
  | cons x _ ih => simp only [sumR, ih]
  | swap x y l => simp only [sumR]; omega
  | trans _ _ h1 h2 => exact h1.trans h2
theorem sumR_app (a b : List Int) : sumR (a ++ b) = sumR a + sumR b := by
  induction a with
  | nil => simp [sumR]
  | cons x r ih => simp only [List.cons_append, sumR, ih]; omega
theorem fold_fit {l : List Int} {size : Int} (hl : ∀ x ∈ l, 1 ≤ x ∧ x ≤ size) : ∀ (R : List Nat) (s : Fs) (T : Int), (∀ i ∈ R, i < l.length) → Fit size s T → Fit size (R.foldl (fst l size) s) (T + sumR (R.map (nm l))) := by
  intro R
  induction R with
  | nil => intro s T _ h; simpa [sumR] using h
  | cons i R ih =>
    intro s T hi h
    have h2 := ih (fst l size s i) (T + nm l i) (fun j hj => hi j (List.mem_cons_of_mem _ hj)) (h.step (hl _ (nm_mem (hi i (List.mem_cons_self ..)))))
    rw [List.map_cons, sumR, ← Int.add_assoc]
    exact h2
theorem map_nm (l : List Int) : (List.range l.length).map (nm l) = l := by
  apply List.ext_getElem
  · simp
  · intro k h1 h2
    simp [nm_get h2]
theorem fit_all {l : List Int} {size : Int} (hl : ∀ x ∈ l, 1 ≤ x ∧ x ≤ size) {R : List Nat} (hR : Perm0 l.length R) : Fit size (fsA l size R) (sumR l) := by
  have h := fold_fit hl R ⟨0, fun _ => 0, fun _ => 0⟩ 0 hR.lt ⟨rfl, fun p q _ hq => absurd hq (Nat.not_lt_zero _), fun b hb => absurd hb (Nat.not_lt_zero _), fun b hb => absurd hb (Nat.not_lt_zero _)⟩
  rw [Int.zero_add, sumR_perm (hR.perm.map (nm l)), map_nm] at h
  exact h
theorem sumR_bounds {l : List Int} {size : Int} (hl : ∀ x ∈ l, 1 ≤ x ∧ x ≤ size) : (l.length : Int) ≤ sumR l ∧ sumR l ≤ (l.length : Int) * size := by
  induction l with
  | nil => simp [sumR]
  | cons x r ih =>
    have h1 := ih fun y hy => hl y (List.mem_cons_of_mem _ hy)
    have h2 := hl x (List.mem_cons_self ..)
    have e : ((r.length + 1 : Nat) : Int) * size = (r.length : Int) * size + size := by rw [Int.natCast_add, Int.add_mul]; simp
    rw [List.length_cons, sumR, e]
    constructor
    · have := h1.1; omega
    · have := h1.2; omega
/-- What PackHalf asks. -/
theorem fit_half {l : List Int} {size : Int} (hl : ∀ x ∈ l, 1 ≤ x ∧ x ≤ size) (hs : 1 ≤ size) {R : List Nat} (hR : Perm0 l.length R) (h0 : l.length ≠ 0) :
    1 ≤ (fsA l size R).m ∧ (((fsA l size R).m : Int) - 1) * size < 2 * sumR l ∧ sumR l ≤ ((fsA l size R).m : Int) * size := by
  have hf := fit_all hl hR
  have hb := (sumR_bounds hl).1
  have hm : 1 ≤ (fsA l size R).m := by
    by_cases e : (fsA l size R).m = 0
    · have h2 := hf.tot
      rw [e] at h2
      have h3 : sumR l = 0 := h2.symm
      omega
    · omega
  refine ⟨hm, ?_, ?_⟩
  · rw [← hf.tot]
    exact half_sum hm (fun b hb => by have := hf.some b hb; omega) (fun p q h1 h2 => by have := hf.two p q h1 h2; omega) hs
  · rw [← hf.tot]
    exact sumF_le fun b hb => by have := hf.lo b hb; omega

/-! ### The laws' helpers -/
theorem sumR_take {l : List Int} {j : Nat} (hj : j < l.length) : sumR (l.take (j + 1)) = sumR (l.take j) + nm l j := by
  rw [take_nm hj, sumR_app]
  simp [sumR]
set_option maxHeartbeats 1000000 in
set_option maxRecDepth 100000 in
theorem sum_any {w : World} {q : Option Addr} {l : List Int} {c : Nat} (h : Nums w q l) (hn : l.length ≤ 1000) (hb : ∀ x ∈ l, 0 ≤ x ∧ x ≤ 1099511627776) :
    Calls Try.prog 22 #[.slice q l.length c] w fun e w' => e = .returned (.int .i64 (sumR l)) ∧ w' = w := by
  have hnH : Hid (l.length ≤ 1000) := hn
  have hbH : Hid (∀ j, j ≤ l.length → 0 ≤ sumR (l.take j) ∧ sumR (l.take j) ≤ (j : Int) * 1099511627776) := by
    intro j
    induction j with
    | zero => intro _; simp [sumR]
    | succ j ih =>
      intro hj
      have h1 := ih (by omega)
      have h2 := hb _ (nm_mem (show j < l.length by omega))
      rw [sumR_take (by omega)]
      omega
  have hb0 := hb
  clear hn hb
  go_enter Try.func22, Try.ntmps22
  go_wp2
  go_loopw [3, 8] (fun sv iv wr => ∃ j : Nat, iv = .int .i64 j ∧ sv = .int .i64 (sumR (l.take j)) ∧ j ≤ l.length ∧ wr = w)
    (fun _ iv _ => l.length - (intOf iv).toNat)
  case atStart => exact ⟨0, rfl, rfl, Nat.zero_le _, rfl⟩
  case round =>
    obtain ⟨j, rfl, rfl, hjl, rfl⟩ := hrel
    by_cases hj : j < l.length
    · rcases h with h0 | ⟨b, o, rfl, hA⟩
      · omega
      have z0 := hA.c j hj
      have hji : (j : Int) < (l.length : Int) := by omega
      have hjH : Hid (j < l.length) := hj
      have hj2 : Hid (j ≤ 100000) := by have := hnH.out; show _ ≤ _; omega
      have h1 := hbH.out j hjl
      have h2 := hb0 _ (nm_mem hj)
      have hst : Hid (sumR (l.take (j + 1)) = sumR (l.take j) + nm l j) := sumR_take hj
      generalize nm l j = x at *
      generalize sumR (l.take j) = S at *
      have hw : Hid (wrap64 (S + x) = S + x) := by show _ = _; have := hnH.out; unfold wrap64; omega
      clear hA h1 h2 hj hb0
      go_wp2
      refine ⟨⟨j + 1, ?_, ?_, hjH.out, by first | rfl | trivial⟩, ?_⟩
      · first | exact int_succ j | exact int_wsucc hj2.out
      · rw [hst.out]; first | exact congrArg _ hw.out | rfl
      · first | exact meas_1 hjH.out | exact meas_w hjH.out hj2.out
    · have hji : ¬ (j : Int) < (l.length : Int) := by omega
      have e : j = l.length := by omega
      subst e
      have e2 : sumR (l.take l.length) = sumR l := by rw [List.take_length]
      rw [e2]
      clear hb0 hbH
      go_wp2
      go_ret
      exact ⟨rfl, rfl⟩

set_option maxHeartbeats 1000000 in
set_option maxRecDepth 100000 in
theorem packs_any (w : World) : Calls Try.prog 20 #[] w fun e w' => e = .returned (.bool true) ∧ Below w.heap.size w w' := by
  have hn := heap_alloc_new w (.cells #[.int .i64 3] 2)
  have hN : Nums (w.alloc (.cells #[.int .i64 3] 2)) (some ⟨w.heap.size, 0, none⟩) [3] := Or.inr ⟨w.heap.size, 0, rfl, by simp, fun j hj => by
    have e : j = 0 := by simp at hj; omega
    subst e
    exact (cell_of_row _ _ 0 _ _ _ hn).trans rfl⟩
  have hbA : Hid (Below w.heap.size w (w.alloc (.cells #[.int .i64 3] 2))) := (Below.refl _ _).alloc (Nat.le_refl _) _
  have hsz : Hid (w.heap.size ≤ (w.alloc (.cells #[.int .i64 3] 2)).heap.size) := hbA.out.size
  have hf := First_ok (c := 1) 4 hN (by decide)
  have e1 : (fsA [3] 4 (List.range [(3 : Int)].length)).m = 1 := by decide
  rw [e1] at hf
  clear hn hN e1
  simp only [List.length_cons, List.length_nil, Nat.zero_add] at hf
  go_enter Try.func20, Try.ntmps20
  go_wp2_with (first
    | (go_at_call 8; refine hf.mono ?_; rintro e w2 ⟨⟨g, rfl, hr⟩, hb⟩; clear hf)
    | fail)
  go_ret
  exact ⟨ret_b (by first | rfl | simp), hbA.out.trans (hb.mono hsz.out)⟩
end Go.Proofs.Ytfnkboegbclnaaa
