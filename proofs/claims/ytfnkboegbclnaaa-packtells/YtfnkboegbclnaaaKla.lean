/- Package pack: Least; what it finds is enough, and nobody takes fewer. -/
import Derived.Test.YtfnkboegbclnaaaKlm
import Derived.Test.YtfnkboegbclnaaaKfd
import Derived.Test.YtfnkboegbclnaaaKfm
namespace Go.Proofs.Ytfnkboegbclnaaa
open Go.RowKit
set_option linter.unusedSectionVars false
set_option linter.unusedVariables false

/-- What the least number of boxes is. -/
structure Lst (l : List Int) (size k : Int) : Prop where
  tot : sumR l ≤ k * size
  le : k ≤ (l.length : Int)
  nn : 0 ≤ k
  pos : 0 < l.length → 0 < k
  big : sumF (bgI l size) l.length ≤ k
  few : ∀ B : List Int, B.length = l.length → bxO l B size l.length = true → k ≤ ((bxK B l.length).length : Int)

theorem lst_of_opt {l : List Int} {size : Int} {F : Nat → Int × Int} (hk : kc l size = 0) (h9 : l.length ≤ 9) (h : Opt l size l.length F (2 ^ l.length)) : Lst l size (F (2 ^ l.length - 1)).1 := by
  obtain ⟨k1, k2, k3, k4⟩ := kc_ok hk
  have hl : ∀ i, i < l.length → 1 ≤ nm l i ∧ nm l i ≤ size := fun i hi => k4 _ (nm_mem hi)
  by_cases h0 : l.length = 0
  · have e : l = [] := List.length_eq_zero_iff.1 h0
    subst e
    have e2 : F (2 ^ ([] : List Int).length - 1) = (0, 0) := h.zero
    rw [e2]
    exact ⟨by simp [sumR], by simp, by simp, fun h => by simp at h, Int.le_refl _, fun B _ _ => by simp⟩
  · have hp : 2 ≤ 2 ^ l.length := by
      have := Nat.pow_le_pow_right (n := 2) (by omega) (show 1 ≤ l.length by omega)
      omega
    have hs : 2 ^ l.length - 1 < 2 ^ l.length := by omega
    have he := enf_all h9 h hl _ hs (by omega)
    have hbd := h.bd _ hs
    have h1 := he.one
    have h2 := he.tot
    have h3 := he.cnt
    have h5 := he.big
    rw [tg_full] at h5
    have hfew := few_all h9 h hl _ hs
    rw [tg_full, sumF_nm] at h2
    rw [tg_full] at h3
    have h4 := sumF_le (E := fun _ => (1 : Int)) (a := 1) (m := l.length) fun _ _ => Int.le_refl _
    simp only [tg_full] at hfew
    clear he
    generalize F (2 ^ l.length - 1) = f at *
    obtain ⟨k, r⟩ := f
    dsimp only at *
    have e1 : k * size = (k - 1) * size + size := by
      have : k = (k - 1) + 1 := by omega
      conv => lhs; rw [this]
      rw [Int.add_mul]; simp
    refine ⟨by omega, by omega, by omega, fun _ => by omega, h5, fun B hB hO => ?_⟩
    have hmem : ∀ i, i < l.length → nm B i ∈ bxK B l.length := fun i hi => ((bxK_spec B l.length).2 _).2 ⟨i, hi, rfl⟩
    have hix : ∀ i, i < l.length → (bxK B l.length).idxOf (nm B i) < (bxK B l.length).length := fun i hi => List.idxOf_lt_length_iff.2 (hmem i hi)
    have hS := bxS_bounds k4 k2 l.length (Nat.le_refl _) hO
    have hload : ∀ b, sumF (ldI l (fun i => (bxK B l.length).idxOf (nm B i)) b) l.length ≤ size := by
      intro b
      have key : ∀ m, m ≤ l.length → sumF (ldI l (fun i => (bxK B l.length).idxOf (nm B i)) b) m ≤ bxS l B m (nm (bxK B l.length) b) := by
        intro m
        induction m with
        | zero => intro _; exact Int.le_refl _
        | succ m ih =>
          intro hm
          have i1 := ih (by omega)
          have i2 := hl m (by omega)
          rw [sumF, bxS]
          unfold ldI at i1 ⊢
          by_cases e : (bxK B l.length).idxOf (nm B m) = b
          · have e2 : nm (bxK B l.length) b = nm B m := by
              rw [← e, nm_get (hix m (by omega))]
              exact List.getElem_idxOf (hix m (by omega))
            rw [if_pos e2, if_pos e, ← e2]
            omega
          · rw [if_neg e]
            by_cases e2 : nm (bxK B l.length) b = nm B m
            · rw [if_pos e2, ← e2]; omega
            · rw [if_neg e2]; omega
      exact Int.le_trans (key _ (Nat.le_refl _)) (hS _).2
    have hN := hix 0 (by omega)
    have hfin := hfew (bxK B l.length).length (fun i => (bxK B l.length).idxOf (nm B i)) (fun i hi _ => hix i hi) hload 0 (by omega)
    unfold lxLe at hfin
    dsimp only at hfin
    omega

set_option maxHeartbeats 1000000 in
set_option maxRecDepth 100000 in
theorem Least_bad {w : World} {q : Option Addr} {l : List Int} {c : Nat} (size : Int) (h : Nums w q l) (hk : kc l size ≠ 0) :
    Calls Try.prog 10 #[.slice q l.length c, .int .i64 size] w fun e w' => e = .returned (.tuple #[.int .i64 0, .int .i64 (kc l size)]) ∧ Below w.heap.size w w' := by
  have hc := Check_any (c := c) size h
  have hkb : (kc l size != 0) = true := by simpa using hk
  clear h hk
  go_enter Try.func10, Try.ntmps10
  go_wp2_with (first
    | (go_at_call 13; refine hc.mono ?_; rintro e w2 ⟨rfl, hb⟩; clear hc)
    | go_in)
  go_ret2
  exact ⟨rfl, hb⟩

set_option maxHeartbeats 1000000 in
set_option maxRecDepth 100000 in
theorem Least_big {w : World} {q : Option Addr} {l : List Int} {c : Nat} (size : Int) (h : Nums w q l) (hk : kc l size = 0) (h9 : 9 < l.length) :
    Calls Try.prog 10 #[.slice q l.length c, .int .i64 size] w fun e w' => e = .returned (.tuple #[.int .i64 0, .int .i64 2]) ∧ Below w.heap.size w w' := by
  have hc := Check_any (c := c) size h
  rw [hk] at hc
  have h9i : (9 : Int) < (l.length : Int) := by omega
  clear h hk h9
  go_enter Try.func10, Try.ntmps10
  go_wp2_with (first
    | (go_at_call 13; refine hc.mono ?_; rintro e w2 ⟨rfl, hb⟩; clear hc)
    | go_in)
  go_ret2
  exact ⟨rfl, hb⟩

set_option maxHeartbeats 1000000 in
set_option maxRecDepth 100000 in
theorem Least_ok {w : World} {q : Option Addr} {l : List Int} {c : Nat} (size : Int) (h : Nums w q l) (hk : kc l size = 0) (h9 : l.length ≤ 9) :
    Calls Try.prog 10 #[.slice q l.length c, .int .i64 size] w fun e w' => (∃ k, Hid (Lst l size k) ∧ e = .returned (.tuple #[.int .i64 k, .int .i64 0])) ∧ Below w.heap.size w w' := by
  have hc := Check_any (c := c) size h
  rw [hk] at hc
  have hle : Hid (∀ w2, Below w.heap.size w w2 → Calls Try.prog 28 #[.slice q l.length c, .int .i64 size] w2 fun e w' => (∃ k r, Hid (Lst l size k) ∧ e = .returned (.agg #[.int .i64 k, .int .i64 r])) ∧ Below w2.heap.size w2 w') := fun w2 hb => by
    obtain ⟨k1, k2, k3, k4⟩ := kc_ok hk
    exact (least_any (c := c) size (h.below hb (Nat.le_refl _)) rfl h9 k4 ⟨k2, k3⟩).mono fun e w' ⟨⟨F, hF, he⟩, hb'⟩ => ⟨⟨_, _, lst_of_opt hk h9 hF.out, he⟩, hb'⟩
  have h9i : ¬ (9 : Int) < (l.length : Int) := by omega
  have hfl : ∀ (k r : Int) (w : World), Sem.run Try.prog (Instr.field 47 (Value.agg #[Value.int IntKind.i64 k, Value.int IntKind.i64 r]) 0) w = .ok (.int .i64 k) w := fun k r w => by kernel_rfl
  clear h hk h9
  go_enter Try.func10, Try.ntmps10
  go_wp2_with (first
    | (go_at_call 13; refine hc.mono ?_; rintro e w2 ⟨rfl, hb⟩; clear hc)
    | (go_at_call 28; refine (hle.out _ hb).mono ?_; rintro e w3 ⟨⟨k, r, hL, rfl⟩, hb3⟩; clear hle)
    | fail)
  go_ret2
  exact ⟨⟨k, hL, rfl⟩, hb.trans (hb3.mono hb.size)⟩
end Go.Proofs.Ytfnkboegbclnaaa
