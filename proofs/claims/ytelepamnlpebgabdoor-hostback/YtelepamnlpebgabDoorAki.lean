/- Asks as they lie in memory; ask.visit, an iterator that calls itself. -/
import Derived.Test.YtelepamnlpebgabDoorAkm
import Derived.Test.YtelepamnlpebgabDoorChecked
import Derived.ProofKit
import Derived.WalkKit
import Derived.RangeFuncNested
import Derived.RangeFuncBound
import Derived.RangeFuncCalls
import Derived.RangeFuncLeaves
import Derived.Shelf.Abstract
import Derived.Shelf.RegionOpen
import Derived.OwnWalkIn
import Derived.TacticsInMore
import Derived.LoopNIn
import Derived.LoopIn
import Derived.OrdersIn
namespace Go.Proofs.YtelepamnlpebgabDoor
open Go.RowKit Go.Shelf Akm
set_option linter.unusedSectionVars false
set_option linter.unusedVariables false
attribute [local go_sem] Oper.semAt_some

/-- The five cells of an ask in a row. -/
def cell5 (w : World) (g o : Nat) (c0 c1 c2 c3 c4 : Value) : Prop := w.cell? ⟨g, o, none⟩ = some c0 ∧ w.cell? ⟨g, o + 1, none⟩ = some c1 ∧ w.cell? ⟨g, o + 2, none⟩ = some c2 ∧ w.cell? ⟨g, o + 3, none⟩ = some c3 ∧ w.cell? ⟨g, o + 4, none⟩ = some c4
mutual
/-- A value is an ask whose parts lie in memory. -/
def liesT (w : World) : Tr → Value → Prop
  | .mk k a b n xs, v => ∃ (p : Option Addr) (cap : Nat), v = .agg #[.int .i64 k, .string a, .string b, .int .i64 n, .slice p xs.length cap] ∧ (xs.length : Int) ≤ 9223372036854775807 ∧ (xs = [] ∨ ∃ g o, p = some ⟨g, o, none⟩ ∧ g < w.heap.size ∧ liesL w g o xs)
def liesL (w : World) (g : Nat) : Nat → List Tr → Prop
  | _, [] => True
  | o, x :: r => (∃ c0 c1 c2 c3 c4, cell5 w g o c0 c1 c2 c3 c4 ∧ liesT w x (.agg #[c0, c1, c2, c3, c4])) ∧ liesL w g (o + 5) r
end
theorem liesL_at {w : World} {g : Nat} : ∀ (l : List Tr) (o j : Nat) (x : Tr), liesL w g o l → l[j]? = some x → ∃ c0 c1 c2 c3 c4, cell5 w g (o + j * 5) c0 c1 c2 c3 c4 ∧ liesT w x (.agg #[c0, c1, c2, c3, c4])
  | [], _, _, _, _, h => by cases h
  | y :: r, o, 0, x, h, e => by
    obtain rfl : y = x := by simpa using e
    rw [liesL] at h
    simpa using h.1
  | y :: r, o, j + 1, x, h, e => by
    rw [liesL] at h
    have := liesL_at r (o + 5) j x h.2 (by simpa using e)
    rw [show o + 5 + j * 5 = o + (j + 1) * 5 by omega] at this
    exact this

mutual
theorem liesT_below {w w' : World} (t : Tr) (v : Value) (h : liesT w t v) (hb : Below w.heap.size w w') : liesT w' t v := by
  match t, h with
  | .mk k a b n xs, h =>
    rw [liesT] at h ⊢
    obtain ⟨p, cap, h1, h2, h3⟩ := h
    refine ⟨p, cap, h1, h2, h3.imp id ?_⟩
    rintro ⟨g, o, h4, h5, h6⟩
    exact ⟨g, o, h4, Nat.lt_of_lt_of_le h5 hb.size, liesL_below xs g o h5 h6 hb⟩
theorem liesL_below {w w' : World} (l : List Tr) (g o : Nat) (hg : g < w.heap.size) (h : liesL w g o l) (hb : Below w.heap.size w w') : liesL w' g o l := by
  match l, h with
  | [], _ => rw [liesL]; trivial
  | x :: r, h =>
    rw [liesL] at h ⊢
    obtain ⟨⟨c0, c1, c2, c3, c4, hc, hx⟩, hr⟩ := h
    refine ⟨⟨c0, c1, c2, c3, c4, ?_, liesT_below x _ hx hb⟩, liesL_below r g (o + 5) hg hr hb⟩
    exact ⟨(hb.cell (p := ⟨g, o, none⟩) hg).trans hc.1, (hb.cell (p := ⟨g, o + 1, none⟩) hg).trans hc.2.1, (hb.cell (p := ⟨g, o + 2, none⟩) hg).trans hc.2.2.1, (hb.cell (p := ⟨g, o + 3, none⟩) hg).trans hc.2.2.2.1, (hb.cell (p := ⟨g, o + 4, none⟩) hg).trans hc.2.2.2.2⟩
end
/-- All blocks of cells stay as they are, but for a few. -/
def Kc (G : Nat → Prop) (W W' : World) : Prop := W.heap.size ≤ W'.heap.size ∧ ∀ k o, W.heap[k]? = some o → o.isCells = true → ¬ G k → W'.heap[k]? = some o
theorem Kc.refl (G : Nat → Prop) (W : World) : Kc G W W := ⟨Nat.le_refl _, fun _ _ h _ _ => h⟩
theorem Kc.trans {G : Nat → Prop} {A B C : World} (h : Kc G A B) (h2 : Kc G B C) : Kc G A C := ⟨Nat.le_trans h.1 h2.1, fun k o hk ho hg => h2.2 k o (h.2 k o hk ho hg) ho hg⟩
theorem Kc.below {G : Nat → Prop} {A B : World} (h : Below A.heap.size A B) : Kc G A B := ⟨h.size, fun k o hk _ _ => (h.block k (Array.getElem?_eq_some_iff.1 hk).1).trans hk⟩
theorem Kc.cell {G : Nat → Prop} {A B : World} (h : Kc G A B) {g o : Nat} {v : Value} (hg : ¬ G g) (hc : A.cell? ⟨g, o, none⟩ = some v) : B.cell? ⟨g, o, none⟩ = some v := by
  unfold World.cell? at *
  cases hA : A.heap[g]? with
  | none => simp [hA] at hc
  | some ob =>
    cases ob with
    | cells cs t fr =>
      have := h.2 g _ hA rfl hg
      simp [this]
      simpa [hA] using hc
    | _ => simp [hA] at hc

abbrev Ak (w0 : World) := { x : Tr × Value // liesT w0 x.1 x.2 }

/-- What visit keeps. -/
def VisitOk (w0 : World) (m l N : Nat) (G : Nat → Prop) (J Jx : List (Ak w0) → World → Prop) (t : Tr) : Prop :=
  ∀ (v : Value), liesT w0 t v → ∀ (pre : List (Ak w0)) (W : World), J pre W → Kc G w0 W → (∀ k, G k → k < W.heap.size) → pre.length + szT t ≤ N →
    CallsIn Fence.wide m Tryd.prog 81 #[v, .func (.yield l) #[] #[]] W fun e W' =>
      (e = .returned (.bool true) ∧ (∃ ys : List (Ak w0), ys.map (·.1.1) = allT t ∧ J (pre ++ ys) W') ∧ Kc G W W') ∨ (e = .returned (.bool false) ∧ ∃ ys : List (Ak w0), (∃ zs, ys.map (·.1.1) ++ zs = allT t) ∧ Jx (pre ++ ys) W')

set_option maxRecDepth 100000 in
set_option maxHeartbeats 1000000 in
theorem visit_one (w0 : World) (m l N : Nat) (hm : 1 ≤ m) (G : Nat → Prop) (hG0 : ∀ k, k < w0.heap.size → ¬ G k) (J Jx : List (Ak w0) → World → Prop) (hJa : ∀ s W W', J s W → Below W.heap.size W W' → J s W')
    (hY : ∀ pre (x : Ak w0) W, J pre W → pre.length < N → YieldAt Fence.wide (m - 1) Tryd.prog l #[x.1.2] W fun e W' => (e = .returned (.bool true) ∧ J (pre ++ [x]) W' ∧ Kc G W W') ∨ (e = .returned (.bool false) ∧ Jx (pre ++ [x]) W'))
    (k : Int) (a b : ByteArray) (n : Int) (xs : List Tr) (IH : ∀ x ∈ xs, VisitOk w0 m l N G J Jx x) : VisitOk w0 m l N G J Jx (.mk k a b n xs) := by
  intro v hv pre W hJ hK hG hN
  have hvl := hv
  rw [liesT] at hv
  obtain ⟨p, cap, rfl, hxl, hxs⟩ := hv
  have hJ1 := hJa pre W (W.alloc (.cells #[.int .i64 k, .string a, .string b, .int .i64 n, .slice p xs.length cap] 25)) hJ ((Below.refl _ _).alloc (Nat.le_refl _) _)
  have hN1 : pre.length < N := by rw [szT] at hN; omega
  obtain ⟨x0, hx0⟩ : ∃ x0 : Ak w0, x0 = ⟨(_, _), hvl⟩ := ⟨_, rfl⟩
  obtain ⟨fn, tmps, assign, body, hy, hR⟩ := hY pre x0 _ hJ1 hN1
  have hx1 : Hid (x0.1.1 = .mk k a b n xs) := by rw [hx0]; exact rfl
  have hx2 : x0.1.2 = .agg #[.int .i64 k, .string a, .string b, .int .i64 n, .slice p xs.length cap] := by rw [hx0]
  rw [hx2] at hy
  have hb4 : (W.alloc (.cells #[.int .i64 k, .string a, .string b, .int .i64 n, .slice p xs.length cap] 25)).cell? ⟨W.heap.size, 4, none⟩ = some (.slice p xs.length cap) := (cell_of_row _ _ 4 _ _ _ (heap_alloc_new _ _)).trans rfl
  have hKA : Kc G W (W.alloc (.cells #[.int .i64 k, .string a, .string b, .int .i64 n, .slice p xs.length cap] 25)) := Kc.below ((Below.refl _ _).alloc (Nat.le_refl _) _)
  have hsA : (W.alloc (.cells #[.int .i64 k, .string a, .string b, .int .i64 n, .slice p xs.length cap] 25)).heap.size = W.heap.size + 1 := by simp
  have hnG : ¬ G W.heap.size := fun h => absurd (hG _ h) (Nat.lt_irrefl _)
  have hJaH : Hid (∀ s W W', J s W → Below W.heap.size W W' → J s W') := hJa
  have hGH : Hid (∀ k, G k → k < W.heap.size) := hG
  have hKH : Hid (Kc G w0 W) := hK
  have hNH : Hid (pre.length + szT (.mk k a b n xs) ≤ N) := hN
  have hxsH : Hid (xs = [] ∨ ∃ g o, p = some ⟨g, o, none⟩ ∧ g < w0.heap.size ∧ liesL w0 g o xs) := hxs
  have hG0H : Hid (∀ k, k < w0.heap.size → ¬ G k) := hG0
  have hIH : Hid (∀ x ∈ xs, VisitOk w0 m l N G J Jx x) := IH
  clear hY hJ hJ1 hJa hG hK hN hN1 hxs hx0 hvl hx2 hG0 IH
  refine callsIn_of_wp Tryd.func81 rfl trivial ?_ rfl
  simp only [Tryd.ntmps81, List.size_toArray, List.length_cons, List.length_nil, Nat.reduceAdd, Nat.reduceSub, Array.replicate_succ, Array.replicate_zero, List.push_toArray, List.append_toArray, List.nil_append, List.cons_append]
  gi_wp2
  refine hR.mono ?_
  rintro e W3 (⟨rfl, hJ3, hk3⟩ | ⟨rfl, hJx3⟩)
  · have z4 : W3.cell? ⟨W.heap.size, 4, none⟩ = some (.slice p xs.length cap) := hk3.cell hnG hb4
    have hKW3 : Hid (Kc G W W3) := hKA.trans hk3
    have hJ3H : Hid (J (pre ++ [x0]) W3) := hJ3
    clear hb4 hKA hk3 hJ3 hsA hR hy
    gi_wp2
    gi_loopw [14] (fun iv wr => ∃ (j : Nat) (ys : List (Ak w0)), iv = .int .i64 j ∧ j ≤ xs.length ∧ Hid (ys.map (·.1.1) = allL (xs.take j)) ∧ Hid (J (pre ++ [x0] ++ ys) wr) ∧ Hid (Kc G W wr)) (fun iv _ => xs.length - (intOf iv).toNat)
    case atStart => exact ⟨0, [], rfl, Nat.zero_le _, rfl, by rw [List.append_nil]; exact hJ3H, hKW3⟩
    case round =>
      obtain ⟨j, ys, rfl, hj, hys, hJr, hKr⟩ := hrel
      by_cases hjl : j < xs.length
      · obtain ⟨x, hx⟩ : ∃ x, xs[j]? = some x := ⟨xs[j], List.getElem?_eq_getElem hjl⟩
        obtain ⟨g, o, rfl, hgl, hll⟩ := hxsH.out.resolve_left (fun e => by rw [e] at hjl; simp at hjl)
        obtain ⟨c0, c1, c2, c3, c4, hc, hlx⟩ := liesL_at xs o j x hll hx
        have hmem : x ∈ xs := List.mem_of_getElem? hx
        have hlx0 := hlx
        obtain ⟨k2, a2, b2, n2, xs2⟩ := x
        rw [liesT] at hlx
        obtain ⟨p2, cap2, e2, _, _⟩ := hlx
        have e3 := Value.agg.inj e2
        simp only [Array.mk.injEq, List.cons.injEq, and_true] at e3
        obtain ⟨rfl, rfl, rfl, rfl, rfl⟩ := e3
        clear e2
        obtain ⟨m2, hm2⟩ : ∃ m2, xs2.length = m2 := ⟨_, rfl⟩
        rw [hm2] at hc hlx0
        have hKwr := hKH.out.trans hKr.out
        have q0 := hKwr.cell (hG0H.out g hgl) hc.1
        have q1 := hKwr.cell (hG0H.out g hgl) hc.2.1
        have q2 := hKwr.cell (hG0H.out g hgl) hc.2.2.1
        have q3 := hKwr.cell (hG0H.out g hgl) hc.2.2.2.1
        have q4 := hKwr.cell (hG0H.out g hgl) hc.2.2.2.2
        have hBa : Below wr.heap.size wr (wr.alloc (.cells #[.int .i64 k2, .string a2, .string b2, .int .i64 n2, .slice p2 m2 cap2] 25)) := (Below.refl _ _).alloc (Nat.le_refl _) _
        have hvi := hIH.out _ hmem _ hlx0 (pre ++ [x0] ++ ys) (wr.alloc (.cells #[.int .i64 k2, .string a2, .string b2, .int .i64 n2, .slice p2 m2 cap2] 25)) (hJaH.out _ _ _ hJr.out hBa) (hKwr.trans (Kc.below hBa)) (fun k hk => by
          have h1 := hGH.out k hk
          have h2 := hKr.out.1
          have h3 := hBa.size
          omega) (by
          have h1 := hNH.out
          have h2 := szL_take hx
          have h3 := congrArg List.length hys.out
          rw [List.length_map, allL_len] at h3
          rw [szT] at h1
          simp
          omega)
        have hKb : Hid (Kc G W (wr.alloc (.cells #[.int .i64 k2, .string a2, .string b2, .int .i64 n2, .slice p2 m2 cap2] 25))) := hKr.out.trans (Kc.below hBa)
        have hxH : Hid (xs[j]? = some (Tr.mk k2 a2 b2 n2 xs2)) := hx
        clear hc hll hlx0 hx hmem hBa hKwr hm2
        have hvi2 : CallsIn Fence.wide (m - 1) Tryd.prog 81 _ _ _ := callsIn_wide.2 (callsIn_wide.1 hvi)
        clear hvi
        gi_wp2_with fail
        refine ⟨trivial, hvi2.mono ?_⟩
        rintro e w5 (⟨rfl, ⟨zs, hz1, hz2⟩, hk5⟩ | ⟨rfl, zs, ⟨rest, hzr⟩, hz⟩)
        · have hz1H : Hid (zs.map (·.1.1) = allT (Tr.mk k2 a2 b2 n2 xs2)) := hz1
          have hz2H : Hid (J (pre ++ [x0] ++ ys ++ zs) w5) := hz2
          have hk5H : Hid (Kc G W w5) := hKb.out.trans hk5
          clear hz1 hz2 hk5 hvi2
          gi_wp2
          refine ⟨⟨j + 1, ys ++ zs, by first | rfl | simp, by omega, ?_, ?_, hk5H⟩, ?_⟩
          · show _ = _
            rw [List.map_append, hys.out, hz1H.out, ← allL_take hxH.out]
          · show J _ _
            rw [← List.append_assoc]
            exact hz2H.out
          · simp [intOf]
            omega
        · have hzrH : Hid (zs.map (·.1.1) ++ rest = allT (Tr.mk k2 a2 b2 n2 xs2)) := hzr
          clear hvi2 hzr
          gi_wp2
          go_ret
          refine Or.inr ⟨rfl, x0 :: (ys ++ zs), ⟨rest ++ allL (xs.drop (j + 1)), ?_⟩, by simpa using hz⟩
          rw [List.map_cons, List.map_append, hx1.out, allT, hys.out, allL_split hxH.out, ← hzrH.out]
          simp
      · have hje : j = xs.length := by omega
        have hys2 : Hid (ys.map (·.1.1) = allL xs) := by
          have := hys.out
          rw [hje, List.take_of_length_le (Nat.le_refl _)] at this
          exact this
        clear hys
        gi_wp2
        go_ret
        refine Or.inl ⟨rfl, ⟨x0 :: ys, ?_, ?_⟩, hKr.out⟩
        · rw [List.map_cons, hys2.out, hx1.out, allT]
        · have := hJr.out
          simpa using this
  · gi_wp2
    go_ret
    exact Or.inr ⟨rfl, [x0], ⟨allL xs, by rw [List.map_cons, List.map_nil, hx1.out, allT]; rfl⟩, hJx3⟩

mutual
/-- visit keeps its word at every ask. -/
theorem visit_in (w0 : World) (m l N : Nat) (hm : 1 ≤ m) (G : Nat → Prop) (hG0 : ∀ k, k < w0.heap.size → ¬ G k) (J Jx : List (Ak w0) → World → Prop) (hJa : ∀ s W W', J s W → Below W.heap.size W W' → J s W')
    (hY : ∀ pre (x : Ak w0) W, J pre W → pre.length < N → YieldAt Fence.wide (m - 1) Tryd.prog l #[x.1.2] W fun e W' => (e = .returned (.bool true) ∧ J (pre ++ [x]) W' ∧ Kc G W W') ∨ (e = .returned (.bool false) ∧ Jx (pre ++ [x]) W')) :
    ∀ t, VisitOk w0 m l N G J Jx t
  | .mk k a b n xs => visit_one w0 m l N hm G hG0 J Jx hJa hY k a b n xs (visit_each w0 m l N hm G hG0 J Jx hJa hY xs)
theorem visit_each (w0 : World) (m l N : Nat) (hm : 1 ≤ m) (G : Nat → Prop) (hG0 : ∀ k, k < w0.heap.size → ¬ G k) (J Jx : List (Ak w0) → World → Prop) (hJa : ∀ s W W', J s W → Below W.heap.size W W' → J s W')
    (hY : ∀ pre (x : Ak w0) W, J pre W → pre.length < N → YieldAt Fence.wide (m - 1) Tryd.prog l #[x.1.2] W fun e W' => (e = .returned (.bool true) ∧ J (pre ++ [x]) W' ∧ Kc G W W') ∨ (e = .returned (.bool false) ∧ Jx (pre ++ [x]) W')) :
    ∀ xs : List Tr, ∀ x ∈ xs, VisitOk w0 m l N G J Jx x
  | [], x, hx => by cases hx
  | y :: r, x, hx => by
    rcases List.mem_cons.1 hx with h | h
    · rw [h]
      exact visit_in w0 m l N hm G hG0 J Jx hJa hY y
    · exact visit_each w0 m l N hm G hG0 J Jx hJa hY r x h
end
end Go.Proofs.YtelepamnlpebgabDoor
