/- The reference's queue, walked: Put. -/
import Derived.Test.YthkhlgannimebaaQr1
namespace Go.Proofs.Ythkhlgannimebaa
open Go.RowKit Go.Maps Go.Sort Qum
set_option linter.unusedSectionVars false

theorem rat_no {w : World} {mb cap : Nat} {p : Option Addr} {L : List Th} {id : Int} (h : Rfq w mb (.slice p L.length cap) L) (hlen : L.length ≤ 200) (hno : hasId L id = false) :
    Calls Try.prog 26 #[.pointer (some ⟨mb, 0, none⟩), .int .i64 id] w fun e w' => e = .returned (.int .i64 (-1)) ∧ Below w.heap.size w w' :=
  (rat_any h hlen).mono fun e w' ⟨n, he, ha, hb⟩ => by
    rcases ha with ⟨rfl, _⟩ | ⟨k, _, hk, e2, _⟩
    · exact ⟨he, hb⟩
    · exact absurd e2 (hasId_false hno _ (th_mem hk))
theorem rat_yes {w : World} {mb cap : Nat} {p : Option Addr} {L : List Th} {id : Int} (h : Rfq w mb (.slice p L.length cap) L) (hlen : L.length ≤ 200) (hyes : hasId L id = true) :
    Calls Try.prog 26 #[.pointer (some ⟨mb, 0, none⟩), .int .i64 id] w fun e w' => ∃ k : Nat, e = .returned (.int .i64 k) ∧ (k < L.length ∧ (th L k).i = id) ∧ Below w.heap.size w w' :=
  (rat_any h hlen).mono fun e w' ⟨n, he, ha, hb⟩ => by
    rcases ha with ⟨_, h0⟩ | ⟨k, rfl, hk, e2, _⟩
    · rw [hyes] at h0; cases h0
    · exact ⟨k, he, ⟨hk, e2⟩, hb⟩

set_option maxRecDepth 100000 in
theorem rput_there {w : World} {mb cap : Nat} {p : Option Addr} {L : List Th} {pr id : Int} (h : Rfq w mb (.slice p L.length cap) L) (hlen : L.length ≤ 200) (hyes : hasId L id = true) :
    Calls Try.prog 10 #[.pointer (some ⟨mb, 0, none⟩), .int .i64 pr, .int .i64 id] w fun e w' => e = .returned (.int .i64 6) ∧ Below w.heap.size w w' := by
  have hat := rat_yes h hlen hyes
  clear h hyes
  go_enter Try.func10, Try.ntmps10
  go_wp2_with (first | (go_at_call 26; refine hat.mono ?_; rintro e w1 ⟨k, rfl, _, hb1⟩; clear hat) | go_in)
  go_ret
  exact ⟨rfl, hb1⟩

set_option maxRecDepth 100000 in
theorem rput_full {w : World} {mb cap : Nat} {p : Option Addr} {L : List Th} {pr id : Int} (h : Rfq w mb (.slice p L.length cap) L) (hlen : L.length = 200) (hno : hasId L id = false) :
    Calls Try.prog 10 #[.pointer (some ⟨mb, 0, none⟩), .int .i64 pr, .int .i64 id] w fun e w' => e = .returned (.int .i64 7) ∧ Below w.heap.size w w' := by
  have hat := rat_no h (by omega) hno
  have hsl : Hid (∀ w1, Below w.heap.size w w1 → w1.cell? ⟨mb, 0, none⟩ = some (.slice p 200 cap)) := fun w1 hb => by have := (h.below hb).slot; rwa [hlen] at this
  clear h hno
  go_enter Try.func10, Try.ntmps10
  go_wp2_with (first | (go_at_call 26; refine hat.mono ?_; rintro e w1 ⟨rfl, hb1⟩; have c1 := hsl.out w1 hb1; clear hat) | go_in)
  go_ret
  exact ⟨rfl, hb1⟩

theorem wpList_app_one {w : World} {ops : Array Oper} {rest : List Oper} {o : Oper} {a : Act} {Q : Exit → Act → World → Prop} (hg : o.guard = none)
    (s x : Operand) (hop : o.op = Op.call { callee := Callee.builtin Builtin.append, args := #[s, x], argTypes := #[22, 22] })
    {v : Value} {n c : Nat} {ad : Addr} {xs news : List Value} (hs : a.eval s = v) (hx : a.eval x = .slice (some ad) 1 c) (h : Rrow w v n xs) (hl : news.length = 2) (hn : ∀ j u, news[j]? = some u → w.cell? (ad.add j) = some u) (h1 : ∀ u ∈ news, u.oneCell' = true) (hb : n ≤ 1000)
    (hK : ∀ p' c' w', Rrow w' (.slice p' (n + 1) c') (n + 1) (xs ++ news) → w.grownBy w' v.ownBlock → (Value.ownBlock (.slice p' (n + 1) c') = v.ownBlock ∨ Value.ownBlock (.slice p' (n + 1) c') = some w.heap.size) → wpList Try.prog ops Q rest (a.put o.dst (.slice p' (n + 1) c')) w') :
    wpList Try.prog ops Q (o :: rest) a w := by
  refine wpList_plain hg fun K' hK' => ?_
  obtain ⟨v', w', hrun, r1, r2, r3⟩ := app_one (c := c) h hl hn h1 hb o.type
  unfold Oper.wp
  simp [execOp, hop, resolve, invoke, builtin, hs, hx, hrun, Result.andThen]
  rcases r1.2 with ⟨_, h0⟩ | ⟨g, cap, cur, rfl, r⟩
  · omega
  · exact hK' _ _ (hK _ cap w' r1 r2 r3)

/-- Of what was there nothing has turned but the reference's block and its row's. -/
structure Kr (mb : Nat) (own : Option Nat) (w w' : World) : Prop where
  os : w'.os = w.os
  tape : w'.tape = w.tape
  output : w'.output = w.output
  size : w.heap.size ≤ w'.heap.size
  block : ∀ k, k < w.heap.size → k ≠ mb → some k ≠ own → w'.heap[k]? = w.heap[k]?

theorem Rfq.own_ne {w : World} {mb : Nat} {v : Value} {L : List Th} (h : Rfq w mb v L) : some mb ≠ v.ownBlock := by
  intro e
  rcases h.row.2 with ⟨rfl, _⟩ | ⟨g, cap, cur, rfl, hg, _⟩
  · simp [Value.ownBlock] at e
  · simp [Value.ownBlock] at e
    rw [← e, h.blk] at hg
    simp at hg

set_option maxRecDepth 100000 in
theorem rput_ok {w : World} {mb cap : Nat} {p : Option Addr} {L : List Th} {pr id : Int} (tn : Int) (h : Rfq w mb (.slice p L.length cap) L) (hlen : L.length < 200) (hno : hasId L id = false) :
    Calls Try.prog 10 #[.pointer (some ⟨mb, 0, none⟩), .int .i64 pr, .int .i64 id] w fun e w' => e = .returned (.int .i64 0) ∧ ∃ (p' : Option Addr) (cap' : Nat), Rfq w' mb (.slice p' (L.length + 1) cap') (L ++ [⟨pr, id, tn⟩]) ∧ Kr mb (Value.ownBlock (.slice p L.length cap)) w w' ∧
      (Value.ownBlock (.slice p' (L.length + 1) cap') = Value.ownBlock (.slice p L.length cap) ∨ ∃ k, Value.ownBlock (.slice p' (L.length + 1) cap') = some k ∧ w.heap.size ≤ k) := by
  have hat := rat_no h (by omega) hno
  have hlen' : Hid (L.length < 200) := hlen
  have hl2 : (L.length : Int) ≠ 200 := by omega
  have hb0 : Hid (∀ w1, Below w.heap.size w w1 → Rfq w1 mb (.slice p L.length cap) L) := fun w1 hb => h.below hb
  have hne := h.own_ne
  clear h hno hlen
  go_enter Try.func10, Try.ntmps10
  go_wp2_with (first
    | (go_at_call 26; refine hat.mono ?_; rintro e w1 ⟨rfl, hb1⟩; have hr := hb0.out w1 hb1; have c1 := hr.slot; have c1a := cell_alloc c1; have hrow := hr.row.alloc (.cells #[.int .i64 pr, .int .i64 id] 30); have hmb := Below.heap_alloc w1 (.cells #[.int .i64 pr, .int .i64 id] 30) mb hr.lt; have hr' : Hid (Rfq w1 mb (.slice p L.length cap) L) := hr; clear hat hr)
    | (at_builtin; refine wpList_app_one rfl _ _ rfl rfl rfl hrow rfl (cells_new _ [.int .i64 pr, .int .i64 id] _) (fun v hv => by simp at hv; rcases hv with rfl | rfl <;> rfl) (by have := hlen'.out; omega) ?_; intro p' c' w2 r2 hg2 hw2; have hg3 : (w1.alloc (.cells #[.int .i64 pr, .int .i64 id] 30)).grownBy w2 (Value.ownBlock (.slice p L.length cap)) := hg2; have hm2 : w2.heap[mb]? = w1.heap[mb]? := (hg3.block mb (by have := hr'.out.lt; simp; omega) hne).trans hmb; have y1 : w2.cell? ⟨mb, 0, none⟩ = some (.slice p L.length cap) := (World.cell?_of_block (w := w1) (a := ⟨mb, 0, none⟩) hm2).trans c1; have y2 : w2.frozen? ⟨mb, 0, none⟩ = false := (World.frozen?_of_block (w := w1) (a := ⟨mb, 0, none⟩) hm2).trans hr'.out.frz)
    | go_in)
  go_ret
  have e2 : w2.heap[mb]? = some (.cells #[.slice p L.length cap] 28 (0, 0)) := hm2.trans hr'.out.blk
  have hwl := hb1.size
  have hml := hr'.out.lt
  have hg3' : (w1.alloc (.cells #[.int .i64 pr, .int .i64 id] 30)).grownBy w2 (Value.ownBlock (.slice p L.length cap)) := hg2
  have hfl : flatI (L ++ [⟨pr, id, tn⟩]) = flatI L ++ [.int .i64 pr, .int .i64 id] := flatI_snoc L ⟨pr, id, tn⟩
  have r3 : Rrow w2 (.slice p' (L.length + 1) c') (L.length + 1) (flatI (L ++ [⟨pr, id, tn⟩])) := by rw [hfl]; exact r2
  have nb : some mb ≠ Value.ownBlock (.slice p' (L.length + 1) c') := by
    intro e
    rcases r3.2 with ⟨h0, _⟩ | ⟨g, c3, cur, hv, hgg, _⟩
    · rw [h0] at e; simp [Value.ownBlock] at e
    · rw [hv] at e
      simp [Value.ownBlock] at e
      rw [← e, e2] at hgg
      simp at hgg
  refine ⟨rfl, p', c', ⟨heap_setCell_same w2 mb 0 _ _ _ e2, ?_⟩, ?_, ?_⟩
  · rw [show (L ++ [(⟨pr, id, tn⟩ : Th)]).length = L.length + 1 by simp]
    exact r3.kept fun k hk => Below.heap_setCell _ _ _ _ (fun e => nb (by rw [hk, e]))
  · refine ⟨hg3'.os.trans hb1.os, hg3'.tape.trans hb1.tape, hg3'.output.trans hb1.output, ?_, fun k hk h1 h2 => ?_⟩
    · have := hg3'.size
      simp at this ⊢
      omega
    · rw [Below.heap_setCell _ _ _ _ h1, hg3'.block k (by simp; omega) h2, Below.heap_alloc _ _ _ (by omega), hb1.block k hk]
  · rcases hw2 with e | e
    · exact Or.inl e
    · exact Or.inr ⟨_, e, by simp; omega⟩
end Go.Proofs.Ythkhlgannimebaa
