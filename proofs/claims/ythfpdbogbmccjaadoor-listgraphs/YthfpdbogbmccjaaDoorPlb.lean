/- A range over slices.Backward: the iterator's contract; a region that leaves its order open, in a round. -/
import Derived.Test.YthfpdbogbmccjaaDoorPer
import Derived.RangeFuncNested
import Derived.RangeFuncBound
import Derived.RangeFuncCalls
import Derived.RangeFuncLeaves
import Derived.Shelf.Abstract
import Derived.Shelf.RegionOpen
import Derived.OwnWalkIn
import Derived.TacticsInMore
import Derived.LoopNIn
import Derived.LoopIn
import Derived.OrdersIn
namespace Go.Proofs.YthfpdbogbmccjaaDoor
open Go.RowKit Go.Shelf Gm Pm
set_option linter.unusedSectionVars false
set_option linter.unusedVariables false
attribute [local go_sem] Oper.semAt_some

theorem opIn_of {l n : Nat} {P : Program} {ops : Array Oper} {Q : Exit → Act → World → Prop} {i : Nat} {K : Act → World → Prop} {a : Act} {w : World} (hnd : ∀ (j : Nat) o c, ops[j]? = some o → o.op ≠ .defer c) (hL : ¬ LetsOut Q) (h : wpOp P ops Q i K a w) : wpOpIn (Fence.wide.inRound l) n P ops Q i K a w := by
  unfold wpOp at h
  unfold wpOpIn
  cases ho : ops[i]? with
  | none => rw [ho] at h; exact h
  | some o =>
    simp only [ho] at h ⊢
    split
    · rename_i hw
      rw [if_pos hw] at h
      rcases h with h | ⟨_, h⟩
      · refine ⟨fun _ _ => trivial, ?_⟩
        rw [Oper.semAt_eq _ _ _ (fun c => hnd i o c ho)]
        unfold Oper.wp at h
        generalize (execOp a.eval o).run P w = r at *
        cases r with
        | ok x w' =>
          cases x with
          | enter f args => exact ⟨fun hd => (by cases hd), CallsIn.inRound l (callsIn_wide.2 h)⟩
          | row r args => exact ⟨fun hd => (by cases hd), fun c cs _ => let ⟨v, w2, r, s⟩ := h c cs; ⟨v, w2, r, stepsIn_wide.2 s⟩⟩
          | value v => exact h
          | skip => exact h
          | defer d => exact h
          | _ => exact h.elim
        | halt x w' => cases x <;> first | exact h | exact h.elim
      · exact absurd h hL
    · rename_i hw
      rw [if_neg hw] at h
      exact ⟨fun _ _ => trivial, h⟩
theorem anyIn_of {l n : Nat} {P : Program} {md : Region.Mode} {ops : Array Oper} {Q : Exit → Act → World → Prop} (hnd : ∀ (j : Nat) o c, ops[j]? = some o → o.op ≠ .defer c) (hL : ¬ LetsOut Q) : ∀ (f : Nat) (listed : Array Bool) (a : Act) (w : World), wpAny P md ops Q f listed a w → wpAnyIn (Fence.wide.inRound l) n P md ops Q f listed a w
  | 0, _, _, _, h => h
  | f + 1, _, _, _, h => ⟨h.1, fun i hi => opIn_of hnd hL (wpOp_mono (fun a w hh => anyIn_of hnd hL f _ a w hh) (h.2 i hi))⟩

def notDefer (o : Oper) : Bool := match o.op with | .defer _ => false | _ => true
theorem nodef_of {ops : Array Oper} (h : ops.all notDefer = true) (j : Nat) (o : Oper) (c : Call) (hj : ops[j]? = some o) : o.op ≠ .defer c := by
  intro e
  have := Array.all_eq_true'.1 h o (Array.mem_of_getElem? hj)
  unfold notDefer at this
  rw [e] at this
  cases this
/-- Nothing that lay below a bound has turned, but for one block. -/
structure Kx (N g : Nat) (W W' : World) : Prop where
  size : W.heap.size ≤ W'.heap.size
  block : ∀ k, k < N → k ≠ g → W'.heap[k]? = W.heap[k]?
theorem Kx.trans {N g : Nat} {A B C : World} (h : Kx N g A B) (h2 : Kx N g B C) : Kx N g A C := ⟨Nat.le_trans h.size h2.size, fun k hk hg => (h2.block k hk hg).trans (h.block k hk hg)⟩
theorem Kx.refl (N g : Nat) (W : World) : Kx N g W W := ⟨Nat.le_refl _, fun _ _ _ => rfl⟩
theorem Kx.put {N g : Nat} {w : World} (hn : N ≤ w.heap.size) (W : World) (l : Nat) (o o' : Obj) (hl : w.heap.size ≤ l) (h : W.heap[l]? = some o) (h1 : o.isCells = false) (h2 : o.isWalk = false) : Kx N g W (W.putObj l o') := by
  have hb := belowK_b hn W l o o' hl h h1 h2
  exact ⟨hb.size, fun k hk _ => hb.block k hk⟩
theorem Kx.cell {N g : Nat} {W W' : World} (h : Kx N g W W') {b o : Nat} (hb : b < N) (hg : b ≠ g) : W'.cell? ⟨b, o, none⟩ = W.cell? ⟨b, o, none⟩ := World.cell?_of_block (w := W) (a := ⟨b, o, none⟩) (h.block b hb hg)
/-- What has come: from the row's end down to k. -/
def bk (R : List Nat) (n k : Nat) : List (Nat × Nat) := (List.range (n - k)).map fun t => (n - 1 - t, bn R (n - 1 - t))
theorem bk_step {R : List Nat} {n k : Nat} (hk : k < n) : bk R n k = bk R n (k + 1) ++ [(k, bn R k)] := by
  unfold bk
  rw [show n - k = (n - (k + 1)) + 1 by omega, List.range_succ, List.map_append]
  simp only [List.map_cons, List.map_nil]
  rw [show n - 1 - (n - (k + 1)) = k by omega]
theorem bk_len (R : List Nat) (n k : Nat) : (bk R n k).length = n - k := by simp [bk]
abbrev Pr (n : Nat) := { x : Nat × Nat // x.2 < n }

set_option maxRecDepth 100000 in
set_option maxHeartbeats 2000000 in
theorem back1_in (m : Nat) (hm : 1 ≤ m) (l Bs n N g cr : Nat) (pr : Option Addr) (R : List Nat) (hn : n ≤ 60) (hlt : ∀ j, j < n → bn R j < n) (hBN : Bs < N) (hBg : Bs ≠ g) (J Jx : List (Pr n) → World → Prop)
    (hY : ∀ pre (x : Pr n) W, J pre W → pre.length < n → YieldAt Fence.wide (m - 1) Tryd.prog l #[.int .i64 (x.1.1 : Int), .int .i64 (x.1.2 : Int)] W fun e W' =>
      (e = .returned (.bool true) ∧ J (pre ++ [x]) W' ∧ Kx N g W W') ∨ (e = .returned (.bool false) ∧ Jx (pre ++ [x]) W'))
    (W : World) (hBs : W.cell? ⟨Bs, 0, none⟩ = some (.slice pr n cr)) (hr : ∀ j, j < n → ∃ gr, pr = some ⟨gr, 0, none⟩ ∧ gr < N ∧ gr ≠ g ∧ W.cell? ⟨gr, j, none⟩ = some (.int .i64 ((bn R j : Nat) : Int))) (h0 : J [] W) :
    CallsIn Fence.wide m Tryd.prog 47 #[.func (.yield l) #[] #[], .pointer (some ⟨Bs, 0, none⟩)] W fun e W' => (∃ v, e = .returned v) ∧
      ((∃ ys : List (Pr n), ys.map (·.1) = bk R n 0 ∧ J ys W') ∨ (∃ pre, True ∧ Jx pre W')) := by
  have hnH : Hid (n ≤ 60) := hn
  have hw0 : Hid (wrap64 ((n : Int) - 1) = (n : Int) - 1) := wrap_small (by omega)
  clear hn
  refine callsIn_of_wp Tryd.func47 rfl trivial ?_ rfl
  simp only [Tryd.ntmps47, List.size_toArray, List.length_cons, List.length_nil, Nat.reduceAdd, Nat.reduceSub, Array.replicate_succ, Array.replicate_zero, List.push_toArray, List.append_toArray, List.nil_append, List.cons_append]
  gi_wp2
  gi_loopw [3] (fun iv wr => ∃ (z : Int) (pre : List (Pr n)), iv = .int .i64 z ∧ -1 ≤ z ∧ z < n ∧ pre.map (·.1) = bk R n (z + 1).toNat ∧ J pre wr ∧ Kx N g W wr)
    (fun iv _ => (intOf iv + 1).toNat)
  case atStart => exact ⟨(n : Int) - 1, [], by first | rfl | rw [hw0.out], by omega, by omega, by rw [show ((n : Int) - 1 + 1).toNat = n by omega]; simp [bk], h0, Kx.refl _ _ _⟩
  case round =>
    obtain ⟨z, pre, rfl, hz0, hz1, hpre, hJ, hK⟩ := hrel
    by_cases hz : 0 ≤ z
    · obtain ⟨j, rfl⟩ : ∃ j : Nat, z = j := ⟨z.toNat, by omega⟩
      have hj : j < n := by omega
      obtain ⟨gr, rfl, hg1, hg2, c0⟩ := hr j hj
      have b1 : wr.cell? ⟨Bs, 0, none⟩ = some (.slice (some ⟨gr, 0, none⟩) n cr) := (hK.cell hBN hBg).trans hBs
      have c1 : wr.cell? ⟨gr, j, none⟩ = some (.int .i64 ((bn R j : Nat) : Int)) := (hK.cell hg1 hg2).trans c0
      have hpl : pre.length = n - (j + 1) := by
        have := congrArg List.length hpre
        rw [List.length_map, bk_len] at this
        omega
      obtain ⟨x, hx⟩ : ∃ x : Pr n, x.1 = (j, bn R j) := ⟨⟨(j, bn R j), hlt j hj⟩, rfl⟩
      obtain ⟨fn, tmps, assign, body, hy, hR⟩ := hY pre x wr hJ (by omega)
      simp only [hx] at hy
      have hxH : Hid (x.1 = (j, bn R j)) := hx
      have hw1 : Hid (wrap64 ((j : Int) - 1) = (j : Int) - 1) := wrap_small (by have := hnH.out; omega)
      have hpreH : Hid (pre.map (·.1) = bk R n ((j : Int) + 1).toNat) := hpre
      have hzi : ¬ (n : Int) ≤ (j : Int) := by omega
      clear hpre c0 hr hx hY
      gi_wp2
      refine hR.mono ?_
      rintro e W3 (⟨rfl, hJ3, hk3⟩ | ⟨rfl, hJx3⟩)
      · gi_wp2
        refine ⟨⟨(j : Int) - 1, _, by first | rfl | rw [hw1.out], by omega, by omega, ?_, hJ3, hK.trans hk3⟩, ?_⟩
        · have e1 : ((j : Int) - 1 + 1).toNat = j := by omega
          have e2 : ((j : Int) + 1).toNat = j + 1 := by omega
          have h1 := hpreH.out
          rw [e2] at h1
          rw [e1, bk_step hj, List.map_append, h1, List.map_cons, List.map_nil, hxH.out]
        · first | (simp [intOf]; done) | (simp [intOf]; omega) | (rw [hw1.out]; simp [intOf]; done) | (rw [hw1.out]; simp [intOf]; omega)
      · gi_wp2
        refine bodyPost_ret (results_none rfl _ _ _) rfl ?_
        exact ⟨⟨_, rfl⟩, .inr ⟨_, trivial, hJx3⟩⟩
    · have hz2 : z = -1 := by omega
      subst hz2
      have hp0 : Hid (pre.map (·.1) = bk R n 0) := hpre
      clear hpre hr
      gi_wp2
      go_end0
      exact ⟨⟨_, rfl⟩, .inl ⟨_, hp0.out, hJ⟩⟩
end Go.Proofs.YthfpdbogbmccjaaDoor
