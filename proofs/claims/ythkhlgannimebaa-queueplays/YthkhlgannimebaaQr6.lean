/- The reference's queue, walked: Drop, Raise. -/
import Derived.Test.YthkhlgannimebaaQr5
import Derived.Test.YthkhlgannimebaaQrm
import Derived.Test.YthkhlgannimebaaQdf
import Derived.Test.YthkhlgannimebaaTkc
import Derived.Test.YthkhlgannimebaaQua
namespace Go.Proofs.Ythkhlgannimebaa
open Go.RowKit Go.Maps Go.Sort Qum Qrm
set_option linter.unusedSectionVars false

/-- One is cut out, as an operation. -/
theorem step_cut {w : World} {o : Oper} {a : Act} {Q : Exit → Act → World → Prop} {K : Act → World → Prop} (s x : Operand) (hop : o.op = Op.call { callee := Callee.builtin Builtin.append, args := #[s, x], argTypes := #[22, 22] })
    {g n cap i c2 : Nat} {A2 : Addr} {xs : List Value} (hs : a.eval s = .slice (some ⟨g, 0, none⟩) i i) (hx : a.eval x = .slice (some A2) (n - (i + 1)) c2) (h : Rrow w (.slice (some ⟨g, 0, none⟩) n cap) n xs) (hi : i < n) (hA : i + 1 < n → A2 = ⟨g, (i + 1) * 2, none⟩) (hb : n ≤ 1000)
    (hK : ∀ (k c' : Nat) (w' : World), Rrow w' (.slice (some ⟨k, 0, none⟩) (n - 1) c') (n - 1) (xs.take (i * 2) ++ xs.drop ((i + 1) * 2)) → w.grownBy w' (some g) → (k = g ∨ k = w.heap.size) → K (a.put o.dst (.slice (some ⟨k, 0, none⟩) (n - 1) c')) w') : o.wp Try.prog a w K Q := by
  obtain ⟨v', w', hrun, r1, r2, r3⟩ := app_cut (c2 := c2) h hi hA hb o.type
  unfold Oper.wp
  simp [execOp, hop, resolve, invoke, builtin, hs, hx, hrun, Result.andThen]
  rcases r1.2 with ⟨rfl, h0⟩ | ⟨g', cap', cur, rfl, r⟩
  · simp [Value.ownBlock] at r3
  · exact hK g' cap' w' r1 r2 (by simpa [Value.ownBlock] using r3)

set_option maxRecDepth 100000 in
theorem rdrop_no {w : World} {mb cap : Nat} {p : Option Addr} {L : List Th} {id : Int} (h : Rfq w mb (.slice p L.length cap) L) (hlen : L.length ≤ 200) (hno : hasId L id = false) :
    Calls Try.prog 24 #[.pointer (some ⟨mb, 0, none⟩), .int .i64 id] w fun e w' => e = .returned (.int .i64 5) ∧ Below w.heap.size w w' := by
  have hat := rat_no h hlen hno
  clear h hno
  go_enter Try.func24, Try.ntmps24
  go_wp2_with (first | (go_at_call 26; refine hat.mono ?_; rintro e w1 ⟨rfl, hb1⟩; clear hat) | go_in)
  go_ret
  exact ⟨rfl, hb1⟩

set_option maxHeartbeats 1000000 in
set_option maxRecDepth 100000 in
theorem rdrop_yes {w : World} {mb cap : Nat} {p : Option Addr} {L : List Th} {id : Int} (h : Rfq w mb (.slice p L.length cap) L) (hlen : L.length ≤ 200) (ids : L.Pairwise (fun x y => x.i ≠ y.i)) (hyes : hasId L id = true) :
    Calls Try.prog 24 #[.pointer (some ⟨mb, 0, none⟩), .int .i64 id] w fun e w' =>
      e = .returned (.int .i64 0) ∧ ∃ (p' : Option Addr) (cap' : Nat), Rfq w' mb (.slice p' (dropId L id).length cap') (dropId L id) ∧ Kr mb (Value.ownBlock (.slice p L.length cap)) w w' ∧ (∀ k, Value.ownBlock (.slice p' (dropId L id).length cap') = some k → Value.ownBlock (.slice p L.length cap) = some k ∨ w.heap.size ≤ k) := by
  have hat := rat_yes h hlen hyes
  obtain ⟨g, rfl⟩ := h.at_ (by
    obtain ⟨y, hy, _⟩ := hasId_true hyes
    cases hL : L with
    | nil => rw [hL] at hy; cases hy
    | cons a r => simp)
  have hlen' : Hid (L.length ≤ 200) := hlen
  have hids : Hid (L.Pairwise (fun x y => x.i ≠ y.i)) := ids
  have hbH : Hid (∀ w1, Below w.heap.size w w1 → Rfq w1 mb (.slice (some ⟨g, 0, none⟩) L.length cap) L) := fun w1 hb => h.below hb
  have hgm : Hid (g ≠ mb) := fun e => h.own_ne (by rw [e]; rfl)
  clear hlen hyes ids h
  go_enter Try.func24, Try.ntmps24
  go_wp2_with (first | (go_at_call 26; refine hat.mono ?_; rintro e w1 ⟨j, rfl, ⟨hj, hid⟩, hb1⟩; clear hat) | go_in)
  have hrz := hbH.out w1 hb1
  have c0z := hrz.slot
  have hcz : w1.drew.cell? ⟨mb, 0, none⟩ = some (.slice (some ⟨g, 0, none⟩) L.length cap) := c0z
  have hjL : (j : Int) < (L.length : Int) := by omega
  have hcap : (L.length : Int) ≤ (cap : Int) := by
    rcases hrz.row.2 with ⟨h0, _⟩ | ⟨g', cap', cur, hv, _, k1, _⟩
    · simp at h0
    · obtain ⟨_, rfl⟩ : g = g' ∧ cap = cap' := by simpa using hv
      omega
  have hjc : (j : Int) ≤ (cap : Int) := by omega
  have hwj : IntKind.i64.wrap ((j : Int) + 1) = ((j + 1 : Nat) : Int) := by have := hlen'.out; rw [IntKind.wrap_i64]; omega
  have hjl1 : (((j + 1 : Nat) : Int)) ≤ (L.length : Int) := by omega
  obtain ⟨A2, hA2, hA3⟩ : ∃ A2 : Addr, (if cap = j + 1 then some (⟨g, 0, none⟩ : Addr) else some ⟨g, (j + 1) * 2, none⟩) = some A2 ∧ Hid (j + 1 < L.length → A2 = ⟨g, (j + 1) * 2, none⟩) := by
    by_cases e : cap = j + 1
    · exact ⟨_, by rw [if_pos e], fun h => by omega⟩
    · exact ⟨_, by rw [if_neg e], fun _ => rfl⟩
  have hdd : Hid (dropId L id = L.eraseIdx j) := erase_id hids.out hj hid
  clear hid c0z
  refine Tkc.region_anyC (C := fun w' => w'.cell? ⟨mb, 0, none⟩ = some (.slice (some ⟨g, 0, none⟩) L.length cap)) (s := 18) (by kernel_rfl) ?_
  refine Tkc.takeC (i := 0) (v := .pointer (some ⟨mb, 0, none⟩)) rfl (by kernel_rfl) (by kernel_rfl) (by kernel_rfl) (fun _ _ _ h => h) (by decide) (by kernel_rfl) (by kernel_rfl) hcz ⟨by rfl, fun w hw => by have hcw : w.cell? ⟨mb, 0, none⟩ = some (.slice (some ⟨g, 0, none⟩) L.length cap) := hw; go_simp⟩ ?_
  go_frame
  refine Tkc.takeC (i := 1) (v := .pointer (some ⟨mb, 0, none⟩)) rfl (by kernel_rfl) (by kernel_rfl) (by kernel_rfl) (fun _ _ _ h => h) (by decide) (by kernel_rfl) (by kernel_rfl) hcz ⟨by rfl, fun w hw => by have hcw : w.cell? ⟨mb, 0, none⟩ = some (.slice (some ⟨g, 0, none⟩) L.length cap) := hw; go_simp⟩ ?_
  go_frame
  refine Tkc.takeC (i := 2) (v := .pointer (some ⟨mb, 0, none⟩)) rfl (by kernel_rfl) (by kernel_rfl) (by kernel_rfl) (fun _ _ _ h => h) (by decide) (by kernel_rfl) (by kernel_rfl) hcz ⟨by rfl, fun w hw => by have hcw : w.cell? ⟨mb, 0, none⟩ = some (.slice (some ⟨g, 0, none⟩) L.length cap) := hw; go_simp⟩ ?_
  go_frame
  refine Tkc.takeC (i := 3) (v := .pointer (some ⟨mb, 0, none⟩)) rfl (by kernel_rfl) (by kernel_rfl) (by kernel_rfl) (fun _ _ _ h => h) (by decide) (by kernel_rfl) (by kernel_rfl) hcz ⟨by rfl, fun w hw => by have hcw : w.cell? ⟨mb, 0, none⟩ = some (.slice (some ⟨g, 0, none⟩) L.length cap) := hw; go_simp⟩ ?_
  go_frame
  refine Tkc.takeC (i := 4) (v := .slice (some ⟨g, 0, none⟩) L.length cap) rfl (by kernel_rfl) (by kernel_rfl) (by kernel_rfl) (fun _ _ _ h => h) (by decide) (by kernel_rfl) (by kernel_rfl) hcz ⟨by rfl, fun w hw => by have hcw : w.cell? ⟨mb, 0, none⟩ = some (.slice (some ⟨g, 0, none⟩) L.length cap) := hw; go_simp⟩ ?_
  go_frame
  refine Tkc.takeC (i := 5) (v := .int .i64 (j : Int)) rfl (by kernel_rfl) (by kernel_rfl) (by kernel_rfl) (fun _ _ _ h => h) (by decide) (by kernel_rfl) (by kernel_rfl) hcz ⟨by rfl, fun w hw => by have hcw : w.cell? ⟨mb, 0, none⟩ = some (.slice (some ⟨g, 0, none⟩) L.length cap) := hw; go_simp⟩ ?_
  go_frame
  refine Tkc.takeC (i := 6) (v := .int .i64 (j : Int)) rfl (by kernel_rfl) (by kernel_rfl) (by kernel_rfl) (fun _ _ _ h => h) (by decide) (by kernel_rfl) (by kernel_rfl) hcz ⟨by rfl, fun w hw => by have hcw : w.cell? ⟨mb, 0, none⟩ = some (.slice (some ⟨g, 0, none⟩) L.length cap) := hw; go_simp⟩ ?_
  go_frame
  refine Tkc.takeC (i := 7) (v := .slice (some ⟨g, 0, none⟩) j j) rfl (by kernel_rfl) (by kernel_rfl) (by kernel_rfl) (fun _ _ _ h => h) (by decide) (by kernel_rfl) (by kernel_rfl) hcz ⟨by rfl, fun w hw => by have hcw : w.cell? ⟨mb, 0, none⟩ = some (.slice (some ⟨g, 0, none⟩) L.length cap) := hw; go_simp⟩ ?_
  go_frame
  refine Tkc.takeC (i := 8) (v := .pointer (some ⟨mb, 0, none⟩)) rfl (by kernel_rfl) (by kernel_rfl) (by kernel_rfl) (fun _ _ _ h => h) (by decide) (by kernel_rfl) (by kernel_rfl) hcz ⟨by rfl, fun w hw => by have hcw : w.cell? ⟨mb, 0, none⟩ = some (.slice (some ⟨g, 0, none⟩) L.length cap) := hw; go_simp⟩ ?_
  go_frame
  refine Tkc.takeC (i := 9) (v := .pointer (some ⟨mb, 0, none⟩)) rfl (by kernel_rfl) (by kernel_rfl) (by kernel_rfl) (fun _ _ _ h => h) (by decide) (by kernel_rfl) (by kernel_rfl) hcz ⟨by rfl, fun w hw => by have hcw : w.cell? ⟨mb, 0, none⟩ = some (.slice (some ⟨g, 0, none⟩) L.length cap) := hw; go_simp⟩ ?_
  go_frame
  refine Tkc.takeC (i := 10) (v := .pointer (some ⟨mb, 0, none⟩)) rfl (by kernel_rfl) (by kernel_rfl) (by kernel_rfl) (fun _ _ _ h => h) (by decide) (by kernel_rfl) (by kernel_rfl) hcz ⟨by rfl, fun w hw => by have hcw : w.cell? ⟨mb, 0, none⟩ = some (.slice (some ⟨g, 0, none⟩) L.length cap) := hw; go_simp⟩ ?_
  go_frame
  refine Tkc.takeC (i := 11) (v := .slice (some ⟨g, 0, none⟩) L.length cap) rfl (by kernel_rfl) (by kernel_rfl) (by kernel_rfl) (fun _ _ _ h => h) (by decide) (by kernel_rfl) (by kernel_rfl) hcz ⟨by rfl, fun w hw => by have hcw : w.cell? ⟨mb, 0, none⟩ = some (.slice (some ⟨g, 0, none⟩) L.length cap) := hw; go_simp⟩ ?_
  go_frame
  refine Tkc.takeC (i := 12) (v := .int .i64 (j : Int)) rfl (by kernel_rfl) (by kernel_rfl) (by kernel_rfl) (fun _ _ _ h => h) (by decide) (by kernel_rfl) (by kernel_rfl) hcz ⟨by rfl, fun w hw => by have hcw : w.cell? ⟨mb, 0, none⟩ = some (.slice (some ⟨g, 0, none⟩) L.length cap) := hw; go_simp⟩ ?_
  go_frame
  refine Tkc.takeC (i := 13) (v := .int .i64 ((j + 1 : Nat) : Int)) rfl (by kernel_rfl) (by kernel_rfl) (by kernel_rfl) (fun _ _ _ h => h) (by decide) (by kernel_rfl) (by kernel_rfl) hcz ⟨by rfl, fun w hw => by have hcw : w.cell? ⟨mb, 0, none⟩ = some (.slice (some ⟨g, 0, none⟩) L.length cap) := hw; go_simp⟩ ?_
  go_frame
  refine Tkc.takeC (i := 14) (v := .slice (some A2) (L.length - (j + 1)) (cap - (j + 1))) rfl (by kernel_rfl) (by kernel_rfl) (by kernel_rfl) (fun _ _ _ h => h) (by decide) (by kernel_rfl) (by kernel_rfl) hcz ⟨by rfl, fun w hw => by go_simp; intro hh; exfalso; omega⟩ ?_
  go_frame
  refine Tkc.onlyC (i := 15) rfl (by kernel_rfl) (fun _ => hcz) (by rfl) (fun K hK => ?_)
  refine step_cut (g := g) (n := L.length) (cap := cap) (i := j) (c2 := cap - (j + 1)) (A2 := A2) (xs := flatI L) (.tmp 18) (.tmp 25) rfl (by simp [Act.eval]) (by simp [Act.eval]) (hrz.row.kept (w' := w1.drew) (fun _ _ => rfl)) hj hA3.out (by have := hlen'.out; omega) ?_
  intro k' c' w5 r5 hg5 hw5
  refine hK _ _ ?_
  clear hK K
  have hm5 : w5.heap[mb]? = w1.heap[mb]? := hg5.block mb hrz.lt (fun e => hgm.out (by cases e; rfl))
  have y1 : w5.cell? ⟨mb, 0, none⟩ = some (.slice (some ⟨g, 0, none⟩) L.length cap) := (World.cell?_of_block (w := w1) (a := ⟨mb, 0, none⟩) hm5).trans hrz.slot
  have y2 : w5.frozen? ⟨mb, 0, none⟩ = false := (World.frozen?_of_block (w := w1) (a := ⟨mb, 0, none⟩) hm5).trans hrz.frz
  go_frame
  refine Tkc.onlyC (i := 16) rfl (by kernel_rfl) (fun _ => y1) (by rfl) (fun K hK => ?_)
  go_simp
  refine hK _ _ ?_
  clear hK K
  refine Tkc.onlyC (i := 17) rfl (by kernel_rfl) (fun _ => y1) (by rfl) (fun K hK => ?_)
  go_simp
  refine hK _ _ ?_
  clear hK K
  refine Tkc.onlyC (i := 18) rfl (by kernel_rfl) (fun _ => y1) (by rfl) (fun K hK => ?_)
  go_simp
  refine hK _ _ ?_
  clear hK K
  refine Tkc.doneC (by kernel_rfl) (fun hz => by have hz' : true = false := hz; cases hz') ?_
  go_wp2
  go_ret
  have hle : (L.eraseIdx j).length = L.length - 1 := List.length_eraseIdx_of_lt hj
  have e2 : w5.heap[mb]? = some (.cells #[.slice (some ⟨g, 0, none⟩) L.length cap] 28 (0, 0)) := hm5.trans hrz.blk
  have hzl := hrz.lt
  have hws : w.heap.size ≤ w1.heap.size := hb1.size
  have hg6 : w1.grownBy w5 (some g) := ⟨hg5.os, hg5.tape, hg5.output, hg5.size, hg5.block⟩
  have hw6 : k' = g ∨ k' = w1.heap.size := hw5
  have hne : k' ≠ mb := by
    rcases hw6 with e | e
    · rw [e]; exact hgm.out
    · omega
  rw [hdd.out]
  refine ⟨rfl, some ⟨k', 0, none⟩, c', ⟨?_, ?_⟩, ?_, ?_⟩
  · rw [hle]; exact heap_setCell_same w5 mb 0 _ _ _ e2
  · rw [hle, flatI_erase]
    exact r5.kept fun k hk => Below.heap_setCell _ _ _ _ (fun e => hne (by
      have hk' : some k' = some k := hk
      cases hk'
      exact e))
  · refine ⟨hg6.os.trans hb1.os, hg6.tape.trans hb1.tape, hg6.output.trans hb1.output, ?_, fun k hk h1 h2 => ?_⟩
    · have := hg6.size
      simp
      omega
    · rw [Below.heap_setCell _ _ _ _ h1, hg6.block k (by omega) h2, hb1.block k hk]
  · intro k hk
    have hk' : some k' = some k := hk
    cases hk'
    rcases hw6 with e | e
    · left; rw [e]; rfl
    · right; omega

theorem rdrop_any {B : Nat} {w : World} {mb k : Nat} {S : Qu} {id : Int} (h : Rq B w mb S.L) (hO : Ok k S) :
    Calls Try.prog 24 #[.pointer (some ⟨mb, 0, none⟩), .int .i64 id] w fun e w' => e = .returned (.int .i64 (drpE S id)) ∧ Rq B w' mb (drpS S id).L ∧ Fr B w w' := by
  have hb := h.base
  have hl := hO.len
  have h' := h
  obtain ⟨p, cap, h1, h2, h3⟩ := h
  cases hh : hasId S.L id
  · have e : drpE S id = 5 := by simp [drpE, hh]
    have e2 : (drpS S id).L = S.L := dropId_none hh
    rw [e, e2]
    exact (rdrop_no h1 hl hh).mono fun _ _ ⟨he, hbl⟩ => ⟨he, h'.below hbl, Fr.of_below hbl hb⟩
  · have e : drpE S id = 0 := by simp [drpE, hh]
    rw [e]
    refine (rdrop_yes h1 hl hO.ids hh).mono fun _ _ ⟨he, p', c', r1, r2, r3⟩ => ⟨he, ⟨p', c', r1, h2, fun k hk => ?_⟩, Fr.of_kr h1 r2 h2 h3⟩
    rcases r3 k hk with e | e
    · exact h3 k e
    · omega

set_option maxRecDepth 100000 in
theorem rraise_no {w : World} {mb cap : Nat} {p : Option Addr} {L : List Th} {id pr : Int} (h : Rfq w mb (.slice p L.length cap) L) (hlen : L.length ≤ 200) (hno : hasId L id = false) :
    Calls Try.prog 25 #[.pointer (some ⟨mb, 0, none⟩), .int .i64 id, .int .i64 pr] w fun e w' => e = .returned (.int .i64 5) ∧ Below w.heap.size w w' := by
  have hat := rat_no h hlen hno
  clear h hno
  go_enter Try.func25, Try.ntmps25
  go_wp2_with (first | (go_at_call 26; refine hat.mono ?_; rintro e w1 ⟨rfl, hb1⟩; clear hat) | go_in)
  go_ret
  exact ⟨rfl, hb1⟩

theorem set_same {l : List Value} {i : Nat} {u : Value} (h : l[i]? = some u) : l.set i u = l := by
  obtain ⟨hi, e⟩ := List.getElem?_eq_some_iff.1 h
  rw [← e]
  exact List.set_getElem_self hi
theorem pri_at {L : List Th} {id : Int} {j : Nat} (ids : L.Pairwise (fun x y => x.i ≠ y.i)) (hj : j < L.length) (hid : (th L j).i = id) : (th L j).p = priOf L id := by
  rw [← hid]
  exact (priOf_of ids (th_mem hj)).symm

set_option maxRecDepth 100000 in
theorem rraise_low {w : World} {mb cap : Nat} {p : Option Addr} {L : List Th} {id pr : Int} (h : Rfq w mb (.slice p L.length cap) L) (hlen : L.length ≤ 200) (ids : L.Pairwise (fun x y => x.i ≠ y.i)) (hyes : hasId L id = true) (hp : pr < priOf L id) :
    Calls Try.prog 25 #[.pointer (some ⟨mb, 0, none⟩), .int .i64 id, .int .i64 pr] w fun e w' => e = .returned (.int .i64 1) ∧ Below w.heap.size w w' := by
  have hat := rat_yes h hlen hyes
  obtain ⟨g, rfl⟩ := h.at_ (by
    obtain ⟨y, hy, _⟩ := hasId_true hyes
    cases hL : L with
    | nil => rw [hL] at hy; cases hy
    | cons a r => simp)
  have hbH : Hid (∀ w1 j, Below w.heap.size w w1 → j < L.length → (th L j).i = id → w1.cell? ⟨mb, 0, none⟩ = some (.slice (some ⟨g, 0, none⟩) L.length cap) ∧ w1.cell? ⟨g, j * 2, none⟩ = some (.int .i64 (priOf L id))) := fun w1 j hb hj hid => ⟨(h.below hb).slot, by rw [← pri_at ids hj hid]; exact ((h.below hb).cells hj).1⟩
  generalize priOf L id = pi at *
  clear h hyes ids
  go_enter Try.func25, Try.ntmps25
  go_wp2_with (first | (go_at_call 26; refine hat.mono ?_; rintro e w1 ⟨j, rfl, ⟨hj, hid⟩, hb1⟩; obtain ⟨c0, c1⟩ := hbH.out w1 j hb1 hj hid; have hji : (j : Int) < (L.length : Int) := (by omega); clear hat) | go_in)
  go_ret
  exact ⟨rfl, hb1⟩

set_option maxHeartbeats 1000000 in
set_option maxRecDepth 100000 in
theorem rraise_yes {w : World} {mb cap : Nat} {p : Option Addr} {L : List Th} {id pr : Int} (h : Rfq w mb (.slice p L.length cap) L) (hlen : L.length ≤ 200) (ids : L.Pairwise (fun x y => x.i ≠ y.i)) (hyes : hasId L id = true) (hp : ¬ pr < priOf L id) :
    Calls Try.prog 25 #[.pointer (some ⟨mb, 0, none⟩), .int .i64 id, .int .i64 pr] w fun e w' =>
      e = .returned (.int .i64 0) ∧ ∃ (p' : Option Addr) (cap' : Nat), Rfq w' mb (.slice p' L.length cap') (L.map (Qum.raised id pr)) ∧ Kr mb none w w' ∧ (∀ k, Value.ownBlock (.slice p' L.length cap') = some k → w.heap.size ≤ k) := by
  have hat := rat_yes h hlen hyes
  have hpos : 0 < L.length := by
    obtain ⟨y, hy, _⟩ := hasId_true hyes
    cases hL : L with
    | nil => rw [hL] at hy; cases hy
    | cons a r => simp
  obtain ⟨g, rfl⟩ := h.at_ hpos
  have hlen' : Hid (L.length ≤ 200) := hlen
  have hposH : Hid (0 < L.length) := hpos
  have hidsH : Hid (L.Pairwise (fun x y => x.i ≠ y.i)) := ids
  have hbR : Hid (∀ w1, Below w.heap.size w w1 → Rfq w1 mb (.slice (some ⟨g, 0, none⟩) L.length cap) L) := fun w1 hb => h.below hb
  have hbH : Hid (∀ w1 j, Below w.heap.size w w1 → j < L.length → (th L j).i = id → w1.cell? ⟨mb, 0, none⟩ = some (.slice (some ⟨g, 0, none⟩) L.length cap) ∧ w1.cell? ⟨g, j * 2, none⟩ = some (.int .i64 (priOf L id))) := fun w1 j hb hj hid => ⟨(h.below hb).slot, by rw [← pri_at ids hj hid]; exact ((h.below hb).cells hj).1⟩
  generalize priOf L id = pi at *
  clear h hyes ids hlen
  go_enter Try.func25, Try.ntmps25
  go_wp2_with (first
    | (go_at_call 26; refine hat.mono ?_; rintro e w1 ⟨j, rfl, ⟨hj, hid⟩, hb1⟩; obtain ⟨c0, c1⟩ := hbH.out w1 j hb1 hj hid; have hji : (j : Int) < (L.length : Int) := (by omega); have hidH : Hid ((th L j).i = id) := hid; have hrz := hbR.out w1 hb1; clear hat hid)
    | (at_builtin; refine wpList_app_all rfl _ _ rfl rfl rfl hrz.row (flatI_one L) (by have := hlen'.out; omega) ?_; intro p2 c2 w2 hr2 hg2 hf2; obtain ⟨g2, rfl, _⟩ := hr2.at_ hposH.out; have hm2 : w2.heap[mb]? = w1.heap[mb]? := hg2.block mb hrz.lt (by simp); have d0 : w2.cell? ⟨mb, 0, none⟩ = some (.slice (some ⟨g, 0, none⟩) L.length cap) := (World.cell?_of_block (w := w1) (a := ⟨mb, 0, none⟩) hm2).trans hrz.slot; have d1 : w2.frozen? ⟨mb, 0, none⟩ = false := (World.frozen?_of_block (w := w1) (a := ⟨mb, 0, none⟩) hm2).trans hrz.frz; have hg2m : g2 ≠ mb := (by have := hf2 g2 rfl; have := hrz.lt; omega); have e0 : (w2.setCell ⟨mb, 0, none⟩ (.slice (some ⟨g2, 0, none⟩) L.length c2)).cell? ⟨g2, j * 2, none⟩ = some (.int .i64 (th L j).p) := (World.cell?_of_block (w := w2) (a := ⟨g2, j * 2, none⟩) (Below.heap_setCell _ _ _ _ hg2m)).trans (hr2.items hj).1; have e1 : (w2.setCell ⟨mb, 0, none⟩ (.slice (some ⟨g2, 0, none⟩) L.length c2)).frozen? ⟨g2, j * 2, none⟩ = false := (World.frozen?_of_block (w := w2) (a := ⟨g2, j * 2, none⟩) (Below.heap_setCell _ _ _ _ hg2m)).trans (hr2.frz _); have hr2H : Hid (Rrow w2 (.slice (some ⟨g2, 0, none⟩) L.length c2) L.length (flatI L)) := hr2; have hg2H : Hid (w1.grownBy w2 none) := hg2; have hf2H : Hid (w1.heap.size ≤ g2) := hf2 g2 rfl; clear hr2 hg2 hf2)
    | go_in)
  go_ret
  have e2 : w2.heap[mb]? = some (.cells #[.slice (some ⟨g, 0, none⟩) L.length cap] 28 (0, 0)) := hm2.trans hrz.blk
  have hzl := hrz.lt
  have hws := hb1.size
  have hll : (L.map (Qum.raised id pr)).length = L.length := by simp
  have hset : L.map (Qum.raised id pr) = L.set j ⟨pr, (th L j).i, (th L j).t⟩ := by
    rw [set_raised pr hidsH.out hj, hidH.out]
  have hfl : flatI (L.map (Qum.raised id pr)) = (flatI L).set (j * 2) (.int .i64 pr) := by
    rw [hset, flatI_set hj]
    have hget := (flatI_get hj).2
    rw [set_same]
    rw [List.getElem?_set_ne (by omega)]
    exact hget
  refine ⟨rfl, some ⟨g2, 0, none⟩, c2, ⟨?_, ?_⟩, ?_, ?_⟩
  · rw [Below.heap_setCell _ _ _ _ (Ne.symm hg2m)]
    exact heap_setCell_same w2 mb 0 _ _ _ e2
  · rw [hll, hfl]
    exact Rrow.store (hr2H.out.kept fun k hk => Below.heap_setCell _ _ _ _ (fun e => hg2m (by
      have hk' : some g2 = some k := hk
      cases hk'
      exact e))) _
  · refine ⟨hg2H.out.os.trans hb1.os, hg2H.out.tape.trans hb1.tape, hg2H.out.output.trans hb1.output, ?_, fun k hk h1 _ => ?_⟩
    · have := hg2H.out.size
      simp
      omega
    · have := hf2H.out
      rw [Below.heap_setCell _ _ _ _ (by show k ≠ g2; omega), Below.heap_setCell _ _ _ _ h1, hg2H.out.block k (by omega) (by simp), hb1.block k hk]
  · intro k hk
    have hk' : some g2 = some k := hk
    cases hk'
    have := hf2H.out
    omega

theorem rraise_any {B : Nat} {w : World} {mb k : Nat} {S : Qu} {id pr : Int} (h : Rq B w mb S.L) (hO : Ok k S) :
    Calls Try.prog 25 #[.pointer (some ⟨mb, 0, none⟩), .int .i64 id, .int .i64 pr] w fun e w' => e = .returned (.int .i64 (raiE S id pr)) ∧ Rq B w' mb (raiS S id pr).L ∧ Fr B w w' := by
  have hb := h.base
  have hl := hO.len
  have h' := h
  obtain ⟨p, cap, h1, h2, h3⟩ := h
  cases hh : hasId S.L id
  · have e : raiE S id pr = 5 := by simp [raiE, hh]
    have e2 : raiS S id pr = S := by simp [raiS, e]
    rw [e, e2]
    exact (rraise_no h1 hl hh).mono fun _ _ ⟨he, hbl⟩ => ⟨he, h'.below hbl, Fr.of_below hbl hb⟩
  · by_cases hp : pr < priOf S.L id
    · have e : raiE S id pr = 1 := by simp [raiE, hh, hp]
      have e2 : raiS S id pr = S := by simp [raiS, e]
      rw [e, e2]
      exact (rraise_low h1 hl hO.ids hh hp).mono fun _ _ ⟨he, hbl⟩ => ⟨he, h'.below hbl, Fr.of_below hbl hb⟩
    · have e : raiE S id pr = 0 := by simp [raiE, hh, hp]
      have e2 : raiS S id pr = ⟨S.turns, S.L.map (Qum.raised id pr)⟩ := by simp [raiS, e]
      rw [e, e2]
      refine (rraise_yes h1 hl hO.ids hh hp).mono fun _ _ ⟨he, p', c', r1, r2, r3⟩ => ⟨he, ⟨p', c', ?_, h2, fun k hk => ?_⟩, ?_⟩
      · rw [List.length_map]; exact r1
      · rw [List.length_map] at hk
        have := r3 k hk
        omega
      · have hlt := h1.lt
        refine ⟨r2.os, r2.tape, r2.output, r2.size, fun k hkB => r2.block k (by omega) (by omega) (by simp), fun k hks hr => r2.block k hks (fun e => ?_) (by simp)⟩
        subst e; rw [h1.rtag.1] at hr; cases hr
end Go.Proofs.Ythkhlgannimebaa
