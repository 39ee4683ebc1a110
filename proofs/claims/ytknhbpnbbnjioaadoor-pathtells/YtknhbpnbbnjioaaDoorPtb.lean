/- PathTells, walked. -/
import Derived.Test.YtknhbpnbbnjioaaDoorPtm
import Derived.Test.YtknhbpnbbnjioaaDoorPpl
import Derived.Test.YtknhbpnbbnjioaaDoorGwk
namespace Go.Proofs.YtknhbpnbbnjioaaDoor
open Go.RowKit Gm Pm
set_option linter.unusedSectionVars false
set_option linter.unusedVariables false

theorem load_wanted {P : Program} {ops : Array Oper} {rest : List Oper} {o : Oper} {a : Act} {w : World} {Q : Exit → Act → World → Prop} (hw : Region.wanted o (yielded ops a.tmps) = true) (ty : TypeId) (x : Operand) (ho : o.op = .load ty x)
    (g : Nat) (hx : a.eval x = .pointer (some ⟨g, 0, none⟩)) (t : TypeId) (cs : Array Value) (fr : Nat × Nat) (d : TypeDesc) (hg : w.heap[g]? = some (.cells cs t fr))
    (hu : P.underlying ty = some d) (hd : (match d with | .struct _ | .array _ _ => true | _ => false) = true) (hi : (P.info? ty).map (·.size) = some cs.size)
    (h : wpList P ops Q rest (a.put o.dst (.agg cs)) w) : wpList P ops Q (o :: rest) a w := by
  unfold wpList
  rw [if_pos hw]
  exact .inl (wp_load_row ty x ho g hx t cs fr d hg hu hd hi h)

set_option maxHeartbeats 4000000 in
set_option maxRecDepth 100000 in
theorem pathTells_bad (n : Int) (q : Option Addr) (l : List Ed) (cap : Nat) (pd : Option Addr) (d : List Int) (cd : Nat) (w : World) (hZ : TabZ w) (h : Eds w q l) (hd : Nums w pd d) (h0 : pe n l d ≠ 0) :
    Calls Tryd.prog 3 #[.int .i64 n, .slice q l.length cap, .slice pd d.length cd] w fun e w' => e = .returned (.bool true) ∧ Below w.heap.size w w' := by
  have hEb : Hid (∀ w1, Below w.heap.size w w1 → Eds w1 q l) := fun w1 hb => h.below hb (Nat.le_refl _)
  have hdb : Hid (∀ w1, Below w.heap.size w w1 → Nums w1 pd d) := fun w1 hb => hd.below hb (Nat.le_refl _)
  have hZb : Hid (∀ w1, Below w.heap.size w w1 → TabZ w1) := fun w1 hb => hZ.below hb (Nat.le_refl _)
  have hti := times_bad (cap := cap) (cd := cd) h hZ hd h0
  have hwb : Hid (∀ w1, Below w.heap.size w w1 → _) := fun w1 hb => Way_bad (cap := cap) (cd := cd) (hEb.out w1 hb) (hZb.out w1 hb) (hdb.out w1 hb) h0
  have hcb : Hid (∀ w1, Below w.heap.size w w1 → _) := fun w1 hb => Critical_bad (cap := cap) (cd := cd) (hEb.out w1 hb) (hZb.out w1 hb) (hdb.out w1 hb) h0
  have htf : Hid (∀ w1, Below w.heap.size w w1 → _) := fun w1 hb => timesFault_any (n := n) (cap := cap) (cd := cd) (hEb.out w1 hb) (hdb.out w1 hb)
  have hc1 : (pe n l d != 0) = true := by simpa using h0
  generalize pe n l d = y at *
  have hyy : (y == y) = true := by simp
  clear h0 h hd hZ hZb hEb hdb
  by_cases a1 : 25 < n
  · by_cases a2 : n ≤ 60
    · go_enter Tryd.func3, Tryd.ntmps3
      go_wp2_with (first
        | (go_at_call 4; refine hti.mono ?_; rintro e w2 ⟨rfl, hB2⟩; clear hti; obtain ⟨hbz, hz⟩ := plan_box w2 #[.slice none 0 0, .slice none 0 0, .int .i64 0])
        | (refine wpList_store_row rfl 25 _ _ rfl _ #[.slice none 0 0, .slice none 0 0, .int .i64 0] rfl rfl _ _ (heap_alloc_new w2 _) (plan_info _ rfl) rfl (plan_one _ _ _ _ _ _ _) ?_; generalize World.setRow (w2.alloc (.cells #[.slice none 0 0, .slice none 0 0, .int .i64 0] 25)) w2.heap.size #[.slice none 0 0, .slice none 0 0, .int .i64 0] = wz at *; have hBz : Below w.heap.size w wz := hB2.trans (hbz.mono hB2.size))
        | (go_at_call 5; refine (hcb.out wz hBz).mono ?_; rintro e w4 ⟨rfl, hb4⟩; clear hcb; have hB4 : Below w.heap.size w w4 := hBz.trans (hb4.mono hBz.size))
        | (go_at_call 6; refine (hwb.out w4 hB4).mono ?_; rintro e w5 ⟨rfl, hb5⟩; clear hwb; have hB5 : Below w.heap.size w w5 := hB4.trans (hb5.mono hB4.size))
        | go_in)
      go_ret
      exact ⟨by first | rfl | simp, hB5⟩
    · go_enter Tryd.func3, Tryd.ntmps3
      go_wp2_with (first
        | (go_at_call 4; refine hti.mono ?_; rintro e w2 ⟨rfl, hB2⟩; clear hti; obtain ⟨hbz, hz⟩ := plan_box w2 #[.slice none 0 0, .slice none 0 0, .int .i64 0])
        | (refine wpList_store_row rfl 25 _ _ rfl _ #[.slice none 0 0, .slice none 0 0, .int .i64 0] rfl rfl _ _ (heap_alloc_new w2 _) (plan_info _ rfl) rfl (plan_one _ _ _ _ _ _ _) ?_; generalize World.setRow (w2.alloc (.cells #[.slice none 0 0, .slice none 0 0, .int .i64 0] 25)) w2.heap.size #[.slice none 0 0, .slice none 0 0, .int .i64 0] = wz at *; have hBz : Below w.heap.size w wz := hB2.trans (hbz.mono hB2.size))
        | (go_at_call 5; refine (hcb.out wz hBz).mono ?_; rintro e w4 ⟨rfl, hb4⟩; clear hcb; have hB4 : Below w.heap.size w w4 := hBz.trans (hb4.mono hBz.size); have hz4 := (hb4.block w2.heap.size (Array.getElem?_eq_some_iff.1 hz).1).trans hz; clear hz)
        | (go_at_call 6; refine (hwb.out w4 hB4).mono ?_; rintro e w5 ⟨rfl, hb5⟩; clear hwb; have hB5 : Below w.heap.size w w5 := hB4.trans (hb5.mono hB4.size); have hz5 := (hb5.block w2.heap.size (Array.getElem?_eq_some_iff.1 hz4).1).trans hz4; clear hz4)
        | (go_at_call 7; refine (htf.out w5 hB5).mono ?_; rintro e w6 ⟨rfl, hb6⟩; clear htf; have hB6 : Below w.heap.size w w6 := hB5.trans (hb6.mono hB5.size); have hz6 := (hb6.block w2.heap.size (Array.getElem?_eq_some_iff.1 hz5).1).trans hz5; clear hz5; have hsp := samePlan_yes (w := w6) (E := fun _ => 0) (L := fun _ => 0) (n := 0) (S := 0) (p1 := none) (p2 := none) (p3 := none) (p4 := none) (c1 := 0) (c2 := 0) (c3 := 0) (c4 := 0) (B1 := 0) (B2 := 0) (B3 := 0) (B4 := 0) (World.ownsRow_nil _ _ _ _) (World.ownsRow_nil _ _ _ _) (World.ownsRow_nil _ _ _ _) (World.ownsRow_nil _ _ _ _) (by omega))
        | (refine wpList_load_row rfl 25 _ rfl _ rfl _ _ _ _ hz6 Tryd.underlying25 rfl (plan_info _ rfl) ?_)
        | (go_at_call 8; refine hsp.mono ?_; rintro e w7 ⟨rfl, hb7⟩; clear hsp; have hB7 : Below w.heap.size w w7 := hB6.trans (hb7.mono hB6.size))
        | go_in)
      go_ret
      exact ⟨by first | rfl | simp, hB7⟩
  · go_enter Tryd.func3, Tryd.ntmps3
    go_wp2_with (first
      | (go_at_call 4; refine hti.mono ?_; rintro e w2 ⟨rfl, hB2⟩; clear hti; obtain ⟨hbz, hz⟩ := plan_box w2 #[.slice none 0 0, .slice none 0 0, .int .i64 0])
      | (refine wpList_store_row rfl 25 _ _ rfl _ #[.slice none 0 0, .slice none 0 0, .int .i64 0] rfl rfl _ _ (heap_alloc_new w2 _) (plan_info _ rfl) rfl (plan_one _ _ _ _ _ _ _) ?_; generalize World.setRow (w2.alloc (.cells #[.slice none 0 0, .slice none 0 0, .int .i64 0] 25)) w2.heap.size #[.slice none 0 0, .slice none 0 0, .int .i64 0] = wz at *; have hBz : Below w.heap.size w wz := hB2.trans (hbz.mono hB2.size))
      | (go_at_call 5; refine (hcb.out wz hBz).mono ?_; rintro e w4 ⟨rfl, hb4⟩; clear hcb; have hB4 : Below w.heap.size w w4 := hBz.trans (hb4.mono hBz.size); have hz4 := (hb4.block w2.heap.size (Array.getElem?_eq_some_iff.1 hz).1).trans hz; clear hz)
      | (go_at_call 6; refine (hwb.out w4 hB4).mono ?_; rintro e w5 ⟨rfl, hb5⟩; clear hwb; have hB5 : Below w.heap.size w w5 := hB4.trans (hb5.mono hB4.size); have hz5 := (hb5.block w2.heap.size (Array.getElem?_eq_some_iff.1 hz4).1).trans hz4; clear hz4)
      | (go_at_call 7; refine (htf.out w5 hB5).mono ?_; rintro e w6 ⟨rfl, hb6⟩; clear htf; have hB6 : Below w.heap.size w w6 := hB5.trans (hb6.mono hB5.size); have hz6 := (hb6.block w2.heap.size (Array.getElem?_eq_some_iff.1 hz5).1).trans hz5; clear hz5; have hsp := samePlan_yes (w := w6) (E := fun _ => 0) (L := fun _ => 0) (n := 0) (S := 0) (p1 := none) (p2 := none) (p3 := none) (p4 := none) (c1 := 0) (c2 := 0) (c3 := 0) (c4 := 0) (B1 := 0) (B2 := 0) (B3 := 0) (B4 := 0) (World.ownsRow_nil _ _ _ _) (World.ownsRow_nil _ _ _ _) (World.ownsRow_nil _ _ _ _) (World.ownsRow_nil _ _ _ _) (by omega))
      | (refine wpList_load_row rfl 25 _ rfl _ rfl _ _ _ _ hz6 Tryd.underlying25 rfl (plan_info _ rfl) ?_)
      | (go_at_call 8; refine hsp.mono ?_; rintro e w7 ⟨rfl, hb7⟩; clear hsp; have hB7 : Below w.heap.size w w7 := hB6.trans (hb7.mono hB6.size))
      | go_in)
    go_ret
    exact ⟨by first | rfl | simp, hB7⟩
end Go.Proofs.YtknhbpnbbnjioaaDoor
