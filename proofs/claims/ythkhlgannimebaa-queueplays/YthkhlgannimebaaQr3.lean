/- The reference's queue, walked: Row. -/
import Derived.Test.YthkhlgannimebaaQr2
import Derived.Deep.QuietTactic
import Derived.BigQuiet
import Derived.Maps.AppendAt
namespace Go.Proofs.Ythkhlgannimebaa
open Go.RowKit Go.Maps Go.Sort Qum
set_option linter.unusedSectionVars false

theorem flatI_erase {L : List Th} {j : Nat} : flatI (L.eraseIdx j) = (flatI L).take (j * 2) ++ (flatI L).drop ((j + 1) * 2) := by
  induction L generalizing j with
  | nil => simp [flatI]
  | cons x r ih =>
    have ef : flatI (x :: r) = .int .i64 x.p :: .int .i64 x.i :: flatI r := rfl
    cases j with
    | zero => simp [ef]
    | succ j =>
      have e2 : flatI (x :: r.eraseIdx j) = .int .i64 x.p :: .int .i64 x.i :: flatI (r.eraseIdx j) := rfl
      rw [List.eraseIdx_cons_succ, e2, ef, ih, show (j + 1) * 2 = j * 2 + 1 + 1 by omega, show (j + 1 + 1) * 2 = (j + 1) * 2 + 1 + 1 by omega]
      simp [show (j + 1) * 2 = j * 2 + 1 + 1 by omega]

theorem flatI_one (l : List Th) : ∀ u ∈ flatI l, u.oneCell' = true := by
  intro u hu
  obtain ⟨x, _, hx⟩ := List.mem_flatMap.1 hu
  simp at hx
  rcases hx with rfl | rfl <;> rfl

theorem Rrow_of_owns {w : World} {B : Nat} {v : Value} {n : Nat} {xs : List Value} (h : w.ownsRow B 30 2 v n xs) : Rrow w v n xs := by
  refine ⟨h.1, ?_⟩
  rcases h.2 with h0 | ⟨g, cap, cur, hv, _, hg, h1, h2, h3, h4⟩
  · exact Or.inl h0
  · exact Or.inr ⟨g, cap, cur, hv, hg, h1, h2, by omega, h4⟩

/-- A copy: append(nil, s...). -/
theorem app_all {w : World} {p : Option Addr} {cap n : Nat} {xs : List Value} (h : Rrow w (.slice p n cap) n xs) (h1 : ∀ u ∈ xs, u.oneCell' = true) (hb : n ≤ 1000) (ty : TypeId) :
    ∃ p' cap' w', (Builtin.append_ #[22, 22] ty #[.slice none 0 0, .slice p n cap]).run Try.prog w = .ok (.slice p' n cap') w' ∧ Rrow w' (.slice p' n cap') n xs ∧ w.grownBy w' none ∧ (∀ k, Value.ownBlock (.slice p' n cap') = some k → w.heap.size ≤ k) := by
  obtain ⟨i0, hi, hz0, hz1, hz2⟩ := info_parts info_item
  rcases h.2 with ⟨hv, rfl⟩ | ⟨g, cap', cur, hv, hg, k1, k2, k3, k4⟩
  · obtain ⟨rfl, rfl⟩ : p = none ∧ cap = 0 := by simpa using hv
    refine ⟨none, 0, w, ?_, h, ⟨rfl, rfl, rfl, Nat.le_refl _, fun _ _ _ => rfl⟩, fun k hk => by simp [Value.ownBlock] at hk⟩
    simp [Builtin.append_, run_underlying Try.underlying22, sizeOf, typeInfo, hi, Builtin.lenOf, Builtin.firstCells]
  · obtain ⟨rfl, rfl⟩ : p = some ⟨g, 0, none⟩ ∧ cap = cap' := by simpa using hv
    obtain ⟨v', w', hrun, r1, r2, r3, r4⟩ := run_append_own_at (P := Try.prog) (w := w) w.heap.size 22 ty 30 i0 (.agg #[.int .i64 0, .int .i64 0]) 2 16 Try.underlying22 hi hz0 hz1 hz2 rfl (by decide) (.slice none 0 0) 0 [] (World.ownsRow_nil _ _ _ _) ⟨g, 0, none⟩ n cap xs h.1 (fun j u hu => by
        have hj : j < n * 2 := by have := (List.getElem?_eq_some_iff.1 hu).1; rw [h.1] at this; exact this
        rw [Addr.add_lit, Nat.zero_add, h.cells hj, hu]) h1 (by unfold maxLen; omega) (by omega) (Nat.le_refl _)
    rw [Nat.zero_add, List.nil_append] at r1
    rcases r1.2 with ⟨rfl, rfl⟩ | ⟨g2, c2, cur2, rfl, hB, hrest⟩
    · exact ⟨none, 0, w', hrun, Rrow_of_owns r1, r2, fun k hk => by simp [Value.ownBlock] at hk⟩
    · exact ⟨_, c2, w', hrun, Rrow_of_owns r1, r2, fun k hk => by simp [Value.ownBlock] at hk; omega⟩

theorem wpList_app_all {w : World} {ops : Array Oper} {rest : List Oper} {o : Oper} {a : Act} {Q : Exit → Act → World → Prop} (hg : o.guard = none)
    (s x : Operand) (hop : o.op = Op.call { callee := Callee.builtin Builtin.append, args := #[s, x], argTypes := #[22, 22] })
    {n cap : Nat} {p : Option Addr} {xs : List Value} (hs : a.eval s = .slice none 0 0) (hx : a.eval x = .slice p n cap) (h : Rrow w (.slice p n cap) n xs) (h1 : ∀ u ∈ xs, u.oneCell' = true) (hb : n ≤ 1000)
    (hK : ∀ p' c' w', Rrow w' (.slice p' n c') n xs → w.grownBy w' none → (∀ k, Value.ownBlock (.slice p' n c') = some k → w.heap.size ≤ k) → wpList Try.prog ops Q rest (a.put o.dst (.slice p' n c')) w') :
    wpList Try.prog ops Q (o :: rest) a w := by
  refine wpList_plain hg fun K' hK' => ?_
  obtain ⟨p', c', w', hrun, r1, r2, r3⟩ := app_all h h1 hb o.type
  unfold Oper.wp
  simp [execOp, hop, resolve, invoke, builtin, hs, hx, hrun, Result.andThen]
  exact hK' _ _ (hK _ _ w' r1 r2 r3)

theorem wpList_app_cut {w : World} {ops : Array Oper} {rest : List Oper} {o : Oper} {a : Act} {Q : Exit → Act → World → Prop} (hg : o.guard = none)
    (s x : Operand) (hop : o.op = Op.call { callee := Callee.builtin Builtin.append, args := #[s, x], argTypes := #[22, 22] })
    {g n cap i c2 : Nat} {A2 : Addr} {xs : List Value} (hs : a.eval s = .slice (some ⟨g, 0, none⟩) i i) (hx : a.eval x = .slice (some A2) (n - (i + 1)) c2) (h : Rrow w (.slice (some ⟨g, 0, none⟩) n cap) n xs) (hi : i < n) (hA : i + 1 < n → A2 = ⟨g, (i + 1) * 2, none⟩) (hb : n ≤ 1000)
    (hK : ∀ (k c' : Nat) (w' : World), Rrow w' (.slice (some ⟨k, 0, none⟩) (n - 1) c') (n - 1) (xs.take (i * 2) ++ xs.drop ((i + 1) * 2)) → w.grownBy w' (some g) → (k = g ∨ k = w.heap.size) → wpList Try.prog ops Q rest (a.put o.dst (.slice (some ⟨k, 0, none⟩) (n - 1) c')) w') :
    wpList Try.prog ops Q (o :: rest) a w := by
  refine wpList_plain hg fun K' hK' => ?_
  obtain ⟨v', w', hrun, r1, r2, r3⟩ := app_cut (c2 := c2) h hi hA hb o.type
  unfold Oper.wp
  simp [execOp, hop, resolve, invoke, builtin, hs, hx, hrun, Result.andThen]
  rcases r1.2 with ⟨rfl, h0⟩ | ⟨g', cap', cur, rfl, r⟩
  · simp [Value.ownBlock] at r3
  · exact hK' _ _ (hK g' cap' w' r1 r2 (by simpa [Value.ownBlock] using r3))

/-- b is the first of the greatest among the first m. -/
def IsB (M : List Th) (m b : Nat) : Prop := b < M.length ∧ (∀ t, t < m → (th M t).p ≤ (th M b).p) ∧ ∀ t, t < b → (th M t).p < (th M b).p
theorem isB_new {M : List Th} {m b : Nat} (h : IsB M m b) (hm : m < M.length) (hl : (th M b).p < (th M m).p) : IsB M (m + 1) m := by
  obtain ⟨h1, h2, h3⟩ := h
  refine ⟨hm, fun t ht => ?_, fun t ht => ?_⟩
  · by_cases e : t = m
    · subst e; exact Int.le_refl _
    · have := h2 t (by omega); omega
  · have := h2 t ht; omega
theorem isB_old {M : List Th} {m b : Nat} (h : IsB M m b) (hl : (th M m).p ≤ (th M b).p) : IsB M (m + 1) b := by
  obtain ⟨h1, h2, h3⟩ := h
  refine ⟨h1, fun t ht => ?_, h3⟩
  by_cases e : t = m
  · subst e; exact hl
  · exact h2 t (by omega)
theorem erase_perm {M : List Th} {b : Nat} (hb : b < M.length) : (th M b :: M.eraseIdx b).Perm M := by
  have e : M.take b ++ th M b :: M.drop (b + 1) = M := by
    rw [th_get hb, List.getElem_cons_drop, List.take_append_drop]
  rw [List.eraseIdx_eq_take_drop_succ]
  conv => rhs; rw [← e]
  exact (List.perm_middle).symm
theorem isB_srt {M : List Th} {b : Nat} (h : IsB M M.length b) (ht : M.Pairwise (fun x y => x.t < y.t)) : srt M = th M b :: srt (M.eraseIdx b) := by
  obtain ⟨h1, h2, h3⟩ := h
  refine srt_first (erase_perm h1) (fun y hy => ?_) (ht.imp fun h => by omega)
  obtain ⟨t, htl, rfl⟩ := List.getElem_of_mem hy
  rw [← th_get htl]
  have a1 := h2 t htl
  rw [List.pairwise_iff_getElem] at ht
  rcases Nat.lt_trichotomy t b with e | e | e
  · have := h3 t e
    simp [ltQ]
    omega
  · subst e; simp [ltQ]
  · have := ht b t h1 htl e
    rw [← th_get h1, ← th_get htl] at this
    simp [ltQ]
    omega

/-- What Row has taken, K, and what it has left, M. -/
structure RowI (L K M : List Th) : Prop where
  eq : K ++ srt M = srt L
  inc : M.Pairwise (fun x y => x.t < y.t)
  len : K.length + M.length = L.length
theorem RowI.step {L K M : List Th} (h : RowI L K M) {b : Nat} (hb : IsB M M.length b) : RowI L (K ++ [th M b]) (M.eraseIdx b) := by
  refine ⟨?_, h.inc.sublist (List.eraseIdx_sublist _ _), ?_⟩
  · rw [← h.eq, isB_srt hb h.inc]; simp
  · have := h.len
    have h1 := List.length_eraseIdx_of_lt hb.1
    have := hb.1
    simp [h1]; omega
theorem RowI.done {L K M : List Th} (h : RowI L K M) (h0 : M.length = 0) : K = srt L := by
  have e : M = [] := List.eq_nil_of_length_eq_zero h0
  have := h.eq
  rw [e] at this
  simpa [srt] using this
end Go.Proofs.Ythkhlgannimebaa
