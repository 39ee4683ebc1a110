/- The reference of package pack: FewestBoxes at every row; pack.Least's number is the fewest boxes. -/
import Derived.Test.YtfnkboegbclnaaaKrh
namespace Go.Proofs.Ytfnkboegbclnaaa
open Go.RowKit
set_option linter.unusedSectionVars false
set_option linter.unusedVariables false

theorem few_any {size : Int} (hs : 1 ≤ size ∧ size ≤ 1099511627776) : ∀ N, N ≤ 9 → FwC size N := by
  intro N
  induction N using Nat.strongRecOn with
  | ind N ih =>
    intro hN
    cases N with
    | zero => exact few_nil size
    | succ M =>
      intro w q c l hl hq hc hx
      obtain ⟨x, t, rfl⟩ : ∃ x t, l = x :: t := by
        cases l with
        | nil => simp at hl
        | cons x t => exact ⟨x, t, rfl⟩
      have ht : t.length = M := by simpa using hl
      rcases hq with h0 | ⟨gq, oq, rfl, hA⟩
      · simp at h0
      have hq : Nums w (some ⟨gq, oq, none⟩) (x :: t) := Or.inr ⟨gq, oq, rfl, hA⟩
      by_cases hc1 : c = 1
      · have hM : M = 0 := by rw [hl] at hc; omega
        subst hM
        subst hc1
        have e : t = [] := List.length_eq_zero_iff.1 ht
        subst e
        exact few_one hs w gq oq x hq (hx x (by simp))
      · have hr : Nums w (some ⟨gq, oq + 1, none⟩) t := Or.inr ⟨gq, oq + 1, rfl, hA.lt, fun j hj => by
          have := hA.c (j + 1) (by simp; exact hj)
          rw [show oq + 1 + j = oq + (j + 1) by omega, this]
          rfl⟩
        exact few_more hs hN (fun N' h1 => ih N' h1 (by omega)) w gq oq c x t ht hq hx ⟨by rw [hl] at hc; omega, by rw [hl] at hc; exact hc⟩ hr

/-! ### What least finds is a way -/
theorem tg_rm0 (n s : Nat) : tg (fun _ => 0) n s = 0 := by
  unfold tg
  rw [sumF_congr (E' := fun _ => 0) fun j _ => by split <;> rfl]
  have h1 := sumF_le (E := fun _ => (0 : Int)) (a := 0) (m := n) fun _ _ => Int.le_refl _
  have h2 := sumF_ge (E := fun _ => (0 : Int)) (a := 0) (m := n) fun _ _ => Int.le_refl _
  simp at h1 h2
  omega
def ldA (l : List Int) (f : Nat → Nat) (b : Nat) (j : Nat) : Int := if f j = b then nm l j else 0
structure OWay (l : List Int) (size : Int) (n s : Nat) (v : Int × Int) (f : Nat → Nat) : Prop where
  lt : ∀ j, j < n → s.testBit j = true → (f j : Int) < v.1
  low : ∀ b : Nat, (b : Int) + 1 < v.1 → tg (ldA l f b) n s ≤ size
  top : ∀ b : Nat, (b : Int) + 1 = v.1 → tg (ldA l f b) n s = v.2
theorem opt_way {l : List Int} {size : Int} {n : Nat} {F : Nat → Int × Int} (hn : n ≤ 9) (h : Opt l size n F (2 ^ n)) (hl : ∀ i, i < n → 1 ≤ nm l i ∧ nm l i ≤ size) : ∀ s, s < 2 ^ n → 0 < s → ∃ f, OWay l size n s (F s) f := by
  intro s
  induction s using Nat.strongRecOn with
  | ind s ih =>
    intro hs h0
    obtain ⟨i, hi, hb, e⟩ := (h.spc s h0 hs).way
    have hle := bit_le hb
    have hp := Nat.two_pow_pos i
    have hs9 := pow9 hn hs
    have hx := hl i hi
    have hbd := h.bd (s - 2 ^ i) (by omega)
    have hrm : ∀ j, j < n → (s - 2 ^ i).testBit j = (s.testBit j && !(j == i)) := fun j hj => bit_rm s hs9 i (by omega) hb j (by omega)
    have hnb : (s - 2 ^ i).testBit i = false := by rw [hrm i hi]; simp
    by_cases hz : s - 2 ^ i = 0
    · rw [hz, h.zero] at e
      have ew : F s = (1, nm l i) := by rw [e]; unfold wth; rw [if_pos (Or.inl rfl)]; simp
      rw [ew]
      refine ⟨fun _ => 0, fun j hj hbj => by show ((0 : Nat) : Int) < 1; omega, fun b hb1 => by exfalso; dsimp only at hb1; omega, fun b hb1 => ?_⟩
      have eb : b = 0 := by dsimp only at hb1; omega
      subst eb
      rw [tg_rm hn hs9 hi hb, hz, tg_zero]
      show 0 + (if 0 = 0 then nm l i else 0) = nm l i
      rw [if_pos rfl]; omega
    · obtain ⟨f, hf⟩ := ih (s - 2 ^ i) (by omega) (by omega) (by omega)
      have hone := (enf_all hn h hl (s - 2 ^ i) (by omega) (by omega)).one
      generalize hFv : F (s - 2 ^ i) = v at *
      obtain ⟨k, r⟩ := v
      dsimp only at *
      obtain ⟨kn, hkn⟩ : ∃ kn : Nat, k = (kn : Int) := ⟨k.toNat, by omega⟩
      have hsame : ∀ (c b : Nat), tg (ldA l (fun j => if j = i then c else f j) b) n (s - 2 ^ i) = tg (ldA l f b) n (s - 2 ^ i) := fun c b => tg_congr fun j hj hbj => by
        have : j ≠ i := fun z => by rw [z, hnb] at hbj; cases hbj
        show (if (if j = i then c else f j) = b then nm l j else 0) = _
        rw [if_neg this]
        rfl
      have hall : ∀ c b : Nat, tg (ldA l (fun j => if j = i then c else f j) b) n s = tg (ldA l f b) n (s - 2 ^ i) + (if c = b then nm l i else 0) := fun c b => by
        rw [tg_rm hn hs9 hi hb, hsame]
        show _ + (if (if i = i then c else f i) = b then nm l i else 0) = _
        rw [if_pos rfl]
      by_cases hw : size < r + nm l i
      · have ew : F s = (k + 1, nm l i) := by rw [e]; unfold wth; rw [if_pos (Or.inr hw)]
        rw [ew]
        refine ⟨fun j => if j = i then kn else f j, fun j hj hbj => ?_, fun b hb1 => ?_, fun b hb1 => ?_⟩
        · show ((if j = i then kn else f j : Nat) : Int) < k + 1
          by_cases ej : j = i
          · rw [if_pos ej]; omega
          · rw [if_neg ej]
            have := hf.lt j hj (by rw [hrm j hj, hbj]; simp [ej])
            dsimp only at this
            omega
        · dsimp only at hb1
          rw [hall, if_neg (by omega)]
          by_cases eb : (b : Int) + 1 = k
          · have := hf.top b eb; dsimp only at this; omega
          · have := hf.low b (by dsimp only; omega); omega
        · dsimp only at hb1 ⊢
          have eb : kn = b := by omega
          rw [hall, if_pos eb]
          have hz2 : tg (ldA l f b) n (s - 2 ^ i) = 0 := by
            have e3 : tg (ldA l f b) n (s - 2 ^ i) = tg (fun _ => 0) n (s - 2 ^ i) := tg_congr fun j hj hbj => by
              have := hf.lt j hj hbj
              dsimp only at this
              unfold ldA
              rw [if_neg (by omega)]
            rw [e3]
            exact tg_rm0 n (s - 2 ^ i)
          rw [hz2]; omega
      · have ew : F s = (k, r + nm l i) := by rw [e]; unfold wth; rw [if_neg (by simp only; omega)]
        rw [ew]
        refine ⟨fun j => if j = i then kn - 1 else f j, fun j hj hbj => ?_, fun b hb1 => ?_, fun b hb1 => ?_⟩
        · show ((if j = i then kn - 1 else f j : Nat) : Int) < k
          by_cases ej : j = i
          · rw [if_pos ej]; omega
          · rw [if_neg ej]
            exact hf.lt j hj (by rw [hrm j hj, hbj]; simp [ej])
        · dsimp only at hb1
          rw [hall, if_neg (by omega)]
          have := hf.low b (by dsimp only; omega); omega
        · dsimp only at hb1 ⊢
          rw [hall, if_pos (by omega)]
          have := hf.top b hb1; dsimp only at this; omega

theorem sumF_mono' {E : Nat → Int} (hE : ∀ i, 0 ≤ E i) : ∀ {a b : Nat}, a ≤ b → sumF E a ≤ sumF E b := by
  intro a b
  induction b with
  | zero => intro h; have : a = 0 := by omega
            rw [this]; exact Int.le_refl _
  | succ b ih =>
    intro h
    by_cases e : a = b + 1
    · rw [e]; exact Int.le_refl _
    · have := ih (by omega)
      have := hE b
      rw [sumF]; omega
theorem ints_len {P : List Int} {n : Nat} (hP : P.Nodup) (h : ∀ x ∈ P, 0 ≤ x ∧ x < (n : Int)) : P.length ≤ n := by
  have h1 : (P.map Int.toNat).Nodup := by
    unfold List.Nodup
    rw [List.pairwise_map]
    refine List.Pairwise.imp_of_mem (fun {a b} ha hb hab e => hab ?_) hP
    have := h a ha
    have := h b hb
    omega
  have h2 := nodup_len h1 (n := n) (fun x hx => by
    obtain ⟨y, hy, rfl⟩ := List.mem_map.1 hx
    have := h y hy
    omega)
  rwa [List.length_map] at h2
/-- Where least's number is k, k boxes are the fewest. -/
theorem few_of_lst {l : List Int} {size k : Int} (hl : ∀ x ∈ l, 1 ≤ x ∧ x ≤ size) (hL : Lst l size k) {K : Nat} (hK : k = (K : Int)) (hw : WayB size l K) : FewB size l K := by
  refine ⟨hw, fun K' hK' => ?_⟩
  obtain ⟨f, hf, hv⟩ := hK'
  obtain ⟨B, hB⟩ : ∃ B : List Int, B = (List.range l.length).map fun i => (f i : Int) := ⟨_, rfl⟩
  have hBl : B.length = l.length := by rw [hB]; simp
  have hnB : ∀ i, i < l.length → nm B i = (f i : Int) := fun i hi => by rw [hB]; simp [nm, hi]
  have hnn : ∀ i, 0 ≤ nm l i := fun i => by
    by_cases hi : i < l.length
    · have := hl _ (nm_mem hi); omega
    · have : nm l i = 0 := by simp [nm, hi]
      omega
  have hS : ∀ j, j ≤ l.length → ∀ b : Nat, bxS l B j (b : Int) = sumF (fun i => if f i = b then nm l i else 0) j := by
    intro j
    induction j with
    | zero => intro _ b; rfl
    | succ j ih =>
      intro hj b
      rw [bxS, sumF, hnB j (by omega)]
      by_cases e : f j = b
      · rw [if_pos (by rw [e]), if_pos e, e, ih (by omega) b]
      · rw [if_neg (fun z => e (by omega)), if_neg e, ih (by omega) b]; omega
  have hO : ∀ j, j ≤ l.length → bxO l B size j = true := by
    intro j
    induction j with
    | zero => intro _; rfl
    | succ j ih =>
      intro hj
      have hb := hf j (by omega)
      have h1 := hS (j + 1) hj (f j)
      have h2 : sumF (fun i => if f i = f j then nm l i else 0) (j + 1) ≤ sumF (fun i => if f i = f j then nm l i else 0) l.length := sumF_mono' (fun i => by
        show 0 ≤ if _ then nm l i else 0
        split
        · exact hnn i
        · exact Int.le_refl _) hj
      have h3 := hv (f j) hb
      rw [ldB_sumF] at h3
      rw [bxO, ih (by omega), hnB j (by omega), h1, Bool.true_and, Bool.and_eq_true]
      exact ⟨decide_eq_true (by omega), decide_eq_true (by omega)⟩
  have h1 := hL.few B hBl (hO l.length (Nat.le_refl _))
  obtain ⟨hnd, hmem⟩ := bxK_spec B l.length
  have h2 := ints_len (n := K') hnd fun x hx => by
    obtain ⟨i, hi, e⟩ := (hmem x).1 hx
    rw [hnB i hi] at e
    have := hf i hi
    omega
  omega
theorem few_of_opt {l : List Int} {size : Int} {F : Nat → Int × Int} (hk : kc l size = 0) (h9 : l.length ≤ 9) (h : Opt l size l.length F (2 ^ l.length)) : ∃ K : Nat, (F (2 ^ l.length - 1)).1 = (K : Int) ∧ FewB size l K := by
  obtain ⟨k1, k2, k3, k4⟩ := kc_ok hk
  have hl : ∀ i, i < l.length → 1 ≤ nm l i ∧ nm l i ≤ size := fun i hi => k4 _ (nm_mem hi)
  have hL := lst_of_opt hk h9 h
  have hnn := hL.nn
  obtain ⟨K, hK⟩ : ∃ K : Nat, (F (2 ^ l.length - 1)).1 = (K : Int) := ⟨(F (2 ^ l.length - 1)).1.toNat, by omega⟩
  refine ⟨K, hK, few_of_lst k4 hL hK ?_⟩
  by_cases h0 : l.length = 0
  · have e : l = [] := List.length_eq_zero_iff.1 h0
    subst e
    refine ⟨fun _ => 0, fun i hi => absurd hi (by simp), fun b _ => ?_⟩
    show (0 : Int) ≤ size
    omega
  · have hp := Nat.two_pow_pos l.length
    have hp1 : 2 ≤ 2 ^ l.length := by
      have := Nat.pow_le_pow_right (n := 2) (by omega) (show 1 ≤ l.length by omega)
      omega
    obtain ⟨f, hf⟩ := opt_way h9 h hl (2 ^ l.length - 1) (by omega) (by omega)
    have hbd := h.bd (2 ^ l.length - 1) (by omega)
    refine ⟨f, fun i hi => ?_, fun b hb => ?_⟩
    · have := hf.lt i hi (by rw [Nat.testBit_two_pow_sub_one]; exact decide_eq_true hi)
      omega
    · have e : ldB f l b = tg (ldA l f b) l.length (2 ^ l.length - 1) := by rw [ldB_sumF, tg_full]; rfl
      rw [e]
      by_cases eb : (b : Int) + 1 = (F (2 ^ l.length - 1)).1
      · rw [hf.top b eb]; exact hbd.2.2.2
      · exact hf.low b (by omega)

set_option maxHeartbeats 1000000 in
set_option maxRecDepth 100000 in
theorem Least_few {w : World} {q : Option Addr} {l : List Int} {c : Nat} (size : Int) (h : Nums w q l) (hk : kc l size = 0) (h9 : l.length ≤ 9) :
    Calls Try.prog 10 #[.slice q l.length c, .int .i64 size] w fun e w' => (∃ K : Nat, Hid (FewB size l K) ∧ e = .returned (.tuple #[.int .i64 (K : Int), .int .i64 0])) ∧ Below w.heap.size w w' := by
  have hc := Check_any (c := c) size h
  rw [hk] at hc
  have hle : Hid (∀ w2, Below w.heap.size w w2 → Calls Try.prog 28 #[.slice q l.length c, .int .i64 size] w2 fun e w' => (∃ (K : Nat) (r : Int), Hid (FewB size l K) ∧ e = .returned (.agg #[.int .i64 (K : Int), .int .i64 r])) ∧ Below w2.heap.size w2 w') := fun w2 hb => by
    obtain ⟨k1, k2, k3, k4⟩ := kc_ok hk
    exact (least_any (c := c) size (h.below hb (Nat.le_refl _)) rfl h9 k4 ⟨k2, k3⟩).mono fun e w' ⟨⟨F, hF, he⟩, hb'⟩ => by
      obtain ⟨K, h1, h2⟩ := few_of_opt hk h9 hF.out
      exact ⟨⟨K, _, h2, by rw [he, h1]⟩, hb'⟩
  have h9i : ¬ (9 : Int) < (l.length : Int) := by omega
  have hfl : ∀ (k r : Int) (w : World), Sem.run Try.prog (Instr.field 47 (Value.agg #[Value.int IntKind.i64 k, Value.int IntKind.i64 r]) 0) w = .ok (.int .i64 k) w := fun k r w => by kernel_rfl
  clear h hk h9
  go_enter Try.func10, Try.ntmps10
  go_wp2_with (first
    | (go_at_call 13; refine hc.mono ?_; rintro e w2 ⟨rfl, hb⟩; clear hc)
    | (go_at_call 28; refine (hle.out _ hb).mono ?_; rintro e w3 ⟨⟨k, r, hL, rfl⟩, hb3⟩; clear hle)
    | fail)
  go_ret2
  exact ⟨⟨k, hL, rfl⟩, hb.trans (hb3.mono hb.size)⟩
end Go.Proofs.Ytfnkboegbclnaaa
