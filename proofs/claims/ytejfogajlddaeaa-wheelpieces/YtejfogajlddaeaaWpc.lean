/- WheelPieces, walked. -/
import Derived.Test.YtejfogajlddaeaaWmd
import Derived.Test.YtejfogajlddaeaaWeq
import Derived.Test.YtejfogajlddaeaaWgd
namespace Go.Proofs.Ytejfogajlddaeaa
open Go.RowKit Go.Maps Go.Shelf Go.Lib Go.Sort Whm
set_option linter.unusedSectionVars false
variable [Inhabited Tm]
variable [Inhabited Ac]

theorem due_split {k : Nat} {S : Wh} {a b : Int} (h : Ok k S) (h0 : 0 ≤ b) : dueL S a ++ dueL (advS S a) b = dueL S (a + b) := by
  refine srt_unique ?_ ?_ (h.tne.filter _)
  · have hp := (srt_perm (S.L.filter (dueB (S.now + a)))).append (srt_perm ((advS S a).L.filter (dueB ((advS S a).now + b))))
    refine hp.trans ?_
    have e1 : S.L.filter (dueB (S.now + a)) = (S.L.filter (dueB (S.now + (a + b)))).filter (dueB (S.now + a)) := by
      rw [List.filter_filter]
      apply List.filter_congr
      intro x _
      simp [dueB]
      omega
    have e2 : (advS S a).L.filter (dueB ((advS S a).now + b)) = (S.L.filter (dueB (S.now + (a + b)))).filter (fun x => !dueB (S.now + a) x) := by
      simp only [advS]
      rw [List.filter_filter, List.filter_filter]
      apply List.filter_congr
      intro x _
      simp [dueB, Int.add_assoc, Bool.and_comm]
    rw [e1, e2]
    exact List.filter_append_perm _ _
  · rw [List.pairwise_append]
    refine ⟨srt_sorted _, srt_sorted _, ?_⟩
    intro x hx y hy
    have h1 := (List.mem_filter.1 ((srt_perm _).mem_iff.1 hx)).2
    have h2 := (List.mem_filter.1 (List.mem_filter.1 ((srt_perm _).mem_iff.1 hy)).1).2
    simp [dueB] at h1 h2
    simp [ltT]
    omega

theorem flatF_append (l l' : List Tm) : flatF (l ++ l') = flatF l ++ flatF l' := by simp [flatF]
theorem flatF_one (l : List Tm) : ∀ u ∈ flatF l, u.oneCell' = true := by
  intro u hu
  simp [flatF] at hu
  obtain ⟨x, _, rfl | rfl⟩ := hu <;> rfl

theorem append_rows {w : World} {v u : Value} {n m B B' : Nat} {xs ys : List Value} (hp : w.ownsRow B 36 2 v n xs) (hq : w.ownsRow B' 36 2 u m ys) (h1 : ∀ y ∈ ys, y.oneCell' = true) (hb : n + m ≤ 1000) (hB : B ≤ w.heap.size) (ty : TypeId) :
    ∃ v' w', (Builtin.append_ #[32, 32] ty #[v, u]).run Try.prog w = .ok v' w' ∧ w'.ownsRow B 36 2 v' (n + m) (xs ++ ys) ∧ w.grownBy w' v.ownBlock := by
  obtain ⟨i0, hi, hz0, hz1, hz2⟩ := info_parts info_fire
  rcases hq.2 with ⟨rfl, rfl⟩ | ⟨g, cap, cur, rfl, r⟩
  · have hy : ys = [] := List.eq_nil_of_length_eq_zero (by simpa using hq.1)
    subst hy
    exact ⟨v, w, run_append_owned_none w B _ ty _ i0 2 Try.underlying32 hi v n xs hp, by simpa using hp, World.grownBy.refl _ _⟩
  · obtain ⟨v', w', h2, h3, h4, _⟩ := run_append_own_at w B _ ty _ i0 (.agg #[.int .i64 0, .int .i64 0]) 2 16 Try.underlying32 hi hz0 hz1 hz2 rfl (by decide) v n xs hp ⟨g, 0, none⟩ m cap ys hq.1 (hq.cells rfl) h1 (by unfold maxLen; omega) (by omega) hB
    exact ⟨v', w', h2, h3, h4⟩

theorem wpList_append_rows {w : World} {ops : Array Oper} {rest : List Oper} {o : Oper} {a : Act} {Q : Exit → Act → World → Prop} (hw : Region.wanted o (yielded ops a.tmps) = true)
    (s x : Operand) (hop : o.op = Op.call { callee := Callee.builtin Builtin.append, args := #[s, x], argTypes := #[32, 32] })
    {v u : Value} {n m B B' : Nat} {xs ys : List Value} (hs : a.eval s = v) (hx : a.eval x = u) (hp : w.ownsRow B 36 2 v n xs) (hq : w.ownsRow B' 36 2 u m ys) (h1 : ∀ y ∈ ys, y.oneCell' = true) (hb : n + m ≤ 1000) (hB : B ≤ w.heap.size)
    (hK : ∀ p' c' w', w'.ownsRow B 36 2 (.slice p' (n + m) c') (n + m) (xs ++ ys) → w.grownBy w' v.ownBlock → wpList Try.prog ops Q rest (a.put o.dst (.slice p' (n + m) c')) w') :
    wpList Try.prog ops Q (o :: rest) a w := by
  refine BigFrame.wpList_want hw fun K' hK' => ?_
  obtain ⟨v', w', hrun, r1, r2⟩ := append_rows hp hq h1 hb hB o.type
  unfold Oper.wp
  simp [execOp, hop, resolve, invoke, builtin, hs, hx, hrun, Result.andThen]
  rcases r1.2 with ⟨rfl, h0⟩ | ⟨g, cap, cur, rfl, r⟩
  · have := hK none 0 w' (by rw [h0]; rw [h0] at r1; exact r1) r2
    rw [h0] at this
    exact hK' _ _ this
  · exact hK' _ _ (hK _ cap w' r1 r2)

theorem Acts.below {w w' : World} {q : Option Addr} {l : List Ac} (h : Acts w q l) (hb : Below w.heap.size w w') : Acts w' q l := by
  rcases h with h | ⟨b, o, hq, hA⟩
  · exact Or.inl h
  · refine Or.inr ⟨b, o, hq, ⟨Nat.lt_of_lt_of_le hA.lt hb.size, ?_, ?_, ?_, ?_, hA.wi, hA.wa⟩⟩
    · exact fun j hj => (hb.cell (p := ⟨b, o + j * 4, none⟩) hA.lt).trans (hA.ck j hj)
    · exact fun j hj => (hb.cell (p := ⟨b, o + j * 4 + 1, none⟩) hA.lt).trans (hA.ci j hj)
    · exact fun j hj => (hb.cell (p := ⟨b, o + j * 4 + 2, none⟩) hA.lt).trans (hA.cp j hj)
    · exact fun j hj => (hb.cell (p := ⟨b, o + j * 4 + 3, none⟩) hA.lt).trans (hA.ca j hj)
end Go.Proofs.Ytejfogajlddaeaa
