/- The wheel's calls that look at its map by one key, walked: what New, Now, Cancel and Add answer, and what they leave of the memory. -/
import Derived.Test.YtejfogajlddaeaaWhm
import Derived.Test.YtejfogajlddaeaaChecked
import Derived.StillTailTactics
import Derived.WalkKit
namespace Go.Proofs.Ytejfogajlddaeaa
open Go.RowKit Go.Maps Whm
set_option linter.unusedSectionVars false
variable [Inhabited Tm]

theorem lawK : Keyed Try.prog 3 := int_keyed Try.underlying3
theorem zeroT (w : World) : (zeroValue 55).run Try.prog w = .ok (.agg #[.int .i64 0, .int .i64 0, .int .i64 0]) w := by kernel_rfl

/-- A wheel lies in the block pb, its map in the block bm. -/
structure Whl (w : World) (pb bm : Nat) (S : Wh) : Prop where
  c0 : w.cell? ⟨pb, 0, none⟩ = some (.int .i64 S.now)
  c1 : w.cell? ⟨pb, 1, none⟩ = some (.int .i64 S.turns)
  c2 : w.cell? ⟨pb, 2, none⟩ = some (.map (some bm))
  f0 : w.frozen? ⟨pb, 0, none⟩ = false
  f1 : w.frozen? ⟨pb, 1, none⟩ = false
  own : ∃ D, w.ownsMap Try.prog 3 tmElem bm S.L.length D ∧ Rep D S.L

theorem Whl.lt {w : World} {pb bm : Nat} {S : Wh} (h : Whl w pb bm S) : pb < w.heap.size := World.block_lt_of_cell? w ⟨pb, 0, none⟩ h.c0
theorem Whl.ltm {w : World} {pb bm : Nat} {S : Wh} (h : Whl w pb bm S) : bm < w.heap.size := by
  obtain ⟨D, ho, _⟩ := h.own
  exact ho.lt
theorem Whl.ne {w : World} {pb bm : Nat} {S : Wh} (h : Whl w pb bm S) : pb ≠ bm := by
  obtain ⟨D, ⟨es, clock, hb, _⟩, _⟩ := h.own
  intro e
  subst e
  have := h.c0
  simp [World.cell?, hb] at this
theorem Whl.kept {w w' : World} {pb bm : Nat} {S : Wh} (h : Whl w pb bm S) (hp : w'.heap[pb]? = w.heap[pb]?) (hm : w'.heap[bm]? = w.heap[bm]?) : Whl w' pb bm S := by
  obtain ⟨D, ⟨es, clock, hb, r⟩, hr⟩ := h.own
  refine ⟨?_, ?_, ?_, ?_, ?_, D, ⟨es, clock, hm.trans hb, r⟩, hr⟩
  · rw [World.cell?_of_block (w := w) (a := ⟨pb, 0, none⟩) hp]; exact h.c0
  · rw [World.cell?_of_block (w := w) (a := ⟨pb, 1, none⟩) hp]; exact h.c1
  · rw [World.cell?_of_block (w := w) (a := ⟨pb, 2, none⟩) hp]; exact h.c2
  · rw [World.frozen?_of_block (w := w) (a := ⟨pb, 0, none⟩) hp]; exact h.f0
  · rw [World.frozen?_of_block (w := w) (a := ⟨pb, 1, none⟩) hp]; exact h.f1
theorem Whl.below {w w' : World} {pb bm B : Nat} {S : Wh} (h : Whl w pb bm S) (hb : Below B w w') (h1 : pb < B) (h2 : bm < B) : Whl w' pb bm S := h.kept (hb.block pb h1) (hb.block bm h2)

theorem owns_size {w : World} {k : TypeId} {b n : Nat} {D : DataW Unit} (h : w.ownsMap Try.prog k tmElem b n D) : w.ownsMap Try.prog k tmElem b (Maps.size D) D := by
  obtain ⟨es, clock, hb, F, hs, rfl⟩ := h
  exact ⟨es, clock, hb, F, by simp [Maps.size, length_sorted], rfl⟩

/-- Of what was there nothing has turned but the wheel's two blocks. -/
structure Kp (pb bm : Nat) (w w' : World) : Prop where
  os : w'.os = w.os
  tape : w'.tape = w.tape
  output : w'.output = w.output
  size : w.heap.size ≤ w'.heap.size
  block : ∀ k, k < w.heap.size → k ≠ pb → k ≠ bm → w'.heap[k]? = w.heap[k]?

theorem Kp.refl (pb bm : Nat) (w : World) : Kp pb bm w w := ⟨rfl, rfl, rfl, Nat.le_refl _, fun _ _ _ _ => rfl⟩
theorem Kp.trans {pb bm : Nat} {a b c : World} (h : Kp pb bm a b) (k : Kp pb bm b c) : Kp pb bm a c :=
  ⟨k.os.trans h.os, k.tape.trans h.tape, k.output.trans h.output, Nat.le_trans h.size k.size, fun i hi h1 h2 => (k.block i (Nat.lt_of_lt_of_le hi h.size) h1 h2).trans (h.block i hi h1 h2)⟩
theorem Kp.of_below {pb bm : Nat} {w w' : World} (h : Below w.heap.size w w') : Kp pb bm w w' := ⟨h.os, h.tape, h.output, h.size, fun k hk _ _ => h.block k hk⟩
theorem Kp.of_grown {pb bm : Nat} {w w' : World} (h : w.grownBy w' (some bm)) : Kp pb bm w w' := ⟨h.os, h.tape, h.output, h.size, fun k hk _ h2 => h.block k hk (fun e => h2 (by cases e; rfl))⟩
theorem Kp.of_none {pb bm : Nat} {w w' : World} (h : w.grownBy w' none) : Kp pb bm w w' := ⟨h.os, h.tape, h.output, h.size, fun k hk _ _ => h.block k hk (by simp)⟩
theorem Kp.setCell {pb bm : Nat} (w : World) (o : Nat) (v : Value) : Kp pb bm w (w.setCell ⟨pb, o, none⟩ v) := ⟨rfl, rfl, rfl, by simp [World.setCell], fun k _ h1 _ => Below.heap_setCell _ _ _ _ h1⟩
theorem Kp.drew {pb bm : Nat} (w : World) : Kp pb bm w w.drew := ⟨rfl, rfl, rfl, Nat.le_refl _, fun _ _ _ _ => rfl⟩
theorem Kp.alloc {pb bm : Nat} (w : World) (o : Obj) : Kp pb bm w (w.alloc o) := Kp.of_none (World.grownBy_alloc w o none)
theorem Kp.below {pb bm B : Nat} {w w' : World} (h : Kp pb bm w w') (h1 : B ≤ pb) (h2 : B ≤ bm) (h3 : B ≤ w.heap.size) : Below B w w' :=
  ⟨h.os, h.tape, h.output, h.size, fun k hk => h.block k (by omega) (by omega) (by omega)⟩
theorem Kp.other {pb bm pb' bm' : Nat} {w w' : World} {S : Wh} (h : Kp pb bm w w') (hw : Whl w pb' bm' S) (h1 : pb' ≠ pb) (h2 : pb' ≠ bm) (h3 : bm' ≠ pb) (h4 : bm' ≠ bm) : Whl w' pb' bm' S :=
  hw.kept (h.block _ hw.lt h1 h2) (h.block _ hw.ltm h3 h4)

theorem cell_alloc {w : World} {a : Addr} {v : Value} (h : w.cell? a = some v) (o : Obj) : (w.alloc o).cell? a = some v := (World.grownBy_alloc w o none).cell h (by simp)
theorem frozen_alloc {w : World} {a : Addr} {v : Value} (h : w.cell? a = some v) (hf : w.frozen? a = false) (o : Obj) : (w.alloc o).frozen? a = false :=
  (World.frozen?_of_block (w := w) (Below.heap_alloc w o a.block (World.block_lt_of_cell? w a h))).trans hf

/-- A look-up in the map of timers: the value is some timer's, and whether it was there is known. -/
theorem wpList_lookup_tm {P : Program} (w : World) {ops : Array Oper} {rest : List Oper} {o : Oper} {a : Act} {Q : Exit → Act → World → Prop} (hg : o.guard = none) (m x : Operand) (t : TypeId) (hop : o.op = Op.lookup t m x true)
    (k e : TypeId) (K : Keyed P k) (ht : P.underlying t = some (.map k e)) (hz : (zeroValue e).run P w = .ok (.agg #[.int .i64 0, .int .i64 0, .int .i64 0]) w) (b n : Nat) (D : DataW Unit)
    (hm : a.eval m = .map (some b)) (hown : w.ownsMap P k tmElem b n D) (key : Value) (kl : Lit) (hx : a.eval x = key) (hkey : keyOf P k key = some kl) (r : Bool) (hr : Maps.has D kl = r)
    (hK : ∀ c0 c1 c2 : Int, wpList P ops Q rest (a.put o.dst (.tuple #[.agg #[.int .i64 c0, .int .i64 c1, .int .i64 c2], .bool r])) w) :
    wpList P ops Q (o :: rest) a w :=
  wpList_lookup_own_ok w hg m x t hop k e K ht tmElem hz (dT ⟨0, 0, 0⟩) [] rfl b n D hm hown key kl hx hkey (fun v ps hv => by
    obtain ⟨c, rfl, _⟩ := tmElem_inv hv
    rw [hr]
    exact hK c.a c.i c.t)

set_option maxRecDepth 100000 in
theorem new_any (w : World) : Calls Try.prog 8 #[] w fun e w' => e = .returned (.pointer (some ⟨w.heap.size + 1, 0, none⟩)) ∧ Whl w' (w.heap.size + 1) w.heap.size ⟨0, 0, []⟩ ∧ Below w.heap.size w w' := by
  have hmm := @run_makeMap Try.prog
  go_enter Try.func8, Try.ntmps8
  go_wp2
  go_ret
  have ho := World.ownsMap_made w Try.prog 3 tmElem
  have hb := heap_alloc_new (w.alloc (.map #[] 0)) (.cells #[.int .i64 0, .int .i64 0, .map (some w.heap.size)] 53)
  simp only [World.size_alloc] at hb
  refine ⟨by simp, ⟨?_, ?_, ?_, ?_, ?_, .map [], ho.alloc _, Rep.empty⟩, ((Below.refl _ _).alloc (Nat.le_refl _) _).alloc (by simp) _⟩
  · rw [cell_of_row _ _ _ _ _ _ hb]; rfl
  · rw [cell_of_row _ _ _ _ _ _ hb]; rfl
  · rw [cell_of_row _ _ _ _ _ _ hb]; rfl
  · simp only [World.frozen?, hb]; rfl
  · simp only [World.frozen?, hb]; rfl

theorem now_any {w : World} {pb bm : Nat} {S : Wh} (h : Whl w pb bm S) : Calls Try.prog 9 #[.pointer (some ⟨pb, 0, none⟩)] w fun e w' => e = .returned (.int .i64 S.now) ∧ w' = w := by
  have c0 := h.c0
  go_enter Try.func9, Try.ntmps9
  go_wp2
  go_ret
  exact ⟨rfl, rfl⟩

set_option maxRecDepth 100000 in
theorem cancel_no {w : World} {pb bm : Nat} {S : Wh} {id : Int} (h : Whl w pb bm S) (wi : (Lit.int .i64 id).wf = true) (hno : hasId S.L id = false) :
    Calls Try.prog 11 #[.pointer (some ⟨pb, 0, none⟩), .int .i64 id] w fun e w' => e = .returned (.int .i64 5) ∧ Below w.heap.size w w' := by
  obtain ⟨D, hown, hr⟩ := h.own
  have c2 := h.c2
  have hh : Maps.has D (ky id) = false := hr.no (hasId_false hno)
  clear h hr hno
  go_enter Try.func11, Try.ntmps11
  go_wp2_with (first
    | (at_lookup; refine wpList_lookup_tm _ rfl _ _ 51 rfl 3 55 lawK Try.underlying51 (zeroT _) bm _ D rfl hown _ _ rfl (keyOf_int_mk Try.underlying3 wi) _ hh ?_; intro c0 c1 c2; clear hown)
    | go_in)
  go_ret
  exact ⟨rfl, (Below.refl _ _).alloc (Nat.le_refl _) _⟩

set_option maxRecDepth 100000 in
theorem cancel_yes {w : World} {pb bm : Nat} {S : Wh} {id : Int} (h : Whl w pb bm S) (wi : (Lit.int .i64 id).wf = true) (hyes : hasId S.L id = true) :
    Calls Try.prog 11 #[.pointer (some ⟨pb, 0, none⟩), .int .i64 id] w fun e w' => e = .returned (.int .i64 0) ∧ Whl w' pb bm (canS S id) ∧ Kp pb bm w w' := by
  have h0 := h
  obtain ⟨D, hown, hr⟩ := h.own
  have c2 := h.c2
  have hh : Maps.has D (ky id) = true := by rw [hr.any]; exact hyes
  have c2a := cell_alloc c2
  clear h hyes
  go_enter Try.func11, Try.ntmps11
  go_wp2_with (first
    | (at_lookup; refine wpList_lookup_tm _ rfl _ _ 51 rfl 3 55 lawK Try.underlying51 (zeroT _) bm _ D rfl hown _ _ rfl (keyOf_int_mk Try.underlying3 wi) _ hh ?_; intro d0 d1 d2)
    | (at_delete; refine wpList_delete_own _ rfl _ _ 51 3 rfl 55 lawK Try.underlying51 tmElem bm _ D rfl (hown.alloc _) _ _ rfl (keyOf_int_mk Try.underlying3 wi) ?_; intro w1 hown1 hturn1; go_frame)
    | go_in)
  go_ret
  have hk : Kp pb bm w w1 := (Kp.alloc w _).trans (Kp.of_grown hturn1.grown)
  have hb : ∀ k, k < w.heap.size → k ≠ bm → w1.heap[k]? = w.heap[k]? := fun k h1 h2 => (hturn1.grown.block k (by simp; omega) (fun e => h2 (by cases e; rfl))).trans (Below.heap_alloc _ _ _ h1)
  have hp := hb pb h0.lt h0.ne
  refine ⟨rfl, ⟨?_, ?_, ?_, ?_, ?_, _, ?_, hr.del id⟩, hk⟩
  · rw [World.cell?_of_block (w := w) (a := ⟨pb, 0, none⟩) hp]; exact h0.c0
  · rw [World.cell?_of_block (w := w) (a := ⟨pb, 1, none⟩) hp]; exact h0.c1
  · rw [World.cell?_of_block (w := w) (a := ⟨pb, 2, none⟩) hp]; exact h0.c2
  · rw [World.frozen?_of_block (w := w) (a := ⟨pb, 0, none⟩) hp]; exact h0.f0
  · rw [World.frozen?_of_block (w := w) (a := ⟨pb, 1, none⟩) hp]; exact h0.f1
  · have := owns_size hown1
    have e : Maps.size (D.del (.int .i64 id)) = (canS S id).L.length := (hr.del id).size
    rw [e] at this
    exact this

/-- Cancel. -/
theorem cancel_any {w : World} {pb bm : Nat} {S : Wh} {id : Int} (h : Whl w pb bm S) (wi : (Lit.int .i64 id).wf = true) :
    Calls Try.prog 11 #[.pointer (some ⟨pb, 0, none⟩), .int .i64 id] w fun e w' => e = .returned (.int .i64 (canE S id)) ∧ Whl w' pb bm (canS S id) ∧ Kp pb bm w w' := by
  cases hid : hasId S.L id
  · refine (cancel_no h wi hid).mono fun e w' ⟨he, hb⟩ => ⟨?_, ?_, Kp.of_below hb⟩
    · rw [he]; simp [canE, hid]
    · have : canS S id = S := by unfold canS; rw [dropId_none hid]
      rw [this]
      exact h.below hb h.lt h.ltm
  · refine (cancel_yes h wi hid).mono fun e w' ⟨he, hb⟩ => ⟨?_, hb⟩
    rw [he]; simp [canE, hid]

set_option maxRecDepth 100000 in
theorem add_late {w : World} {pb bm : Nat} {S : Wh} {at_ id : Int} (h : Whl w pb bm S) (hc : at_ ≤ S.now) :
    Calls Try.prog 10 #[.pointer (some ⟨pb, 0, none⟩), .int .i64 at_, .int .i64 id] w fun e w' => e = .returned (.int .i64 11) ∧ Below w.heap.size w w' := by
  have c0 := h.c0
  clear h
  go_enter Try.func10, Try.ntmps10
  go_wp2
  go_ret
  exact ⟨rfl, Below.refl _ _⟩

set_option maxRecDepth 100000 in
theorem add_far {w : World} {pb bm : Nat} {S : Wh} {at_ id : Int} (h : Whl w pb bm S) (h0 : 0 ≤ S.now) (ha : at_ < 9223372036854775808) (hc : S.now < at_) (hf : 16777216 < at_ - S.now) :
    Calls Try.prog 10 #[.pointer (some ⟨pb, 0, none⟩), .int .i64 at_, .int .i64 id] w fun e w' => e = .returned (.int .i64 4) ∧ Below w.heap.size w w' := by
  have c0 := h.c0
  clear h
  have d0 : decide (at_ ≤ S.now) = false := by simp; omega
  have d1 : wrap64 (at_ - S.now) = at_ - S.now := by unfold wrap64; omega
  generalize S.now = nw at *
  go_enter Try.func10, Try.ntmps10
  go_wp2
  go_ret
  exact ⟨rfl, Below.refl _ _⟩

set_option maxRecDepth 100000 in
theorem add_there {w : World} {pb bm : Nat} {S : Wh} {at_ id : Int} (h : Whl w pb bm S) (hc : S.now < at_) (hf : at_ - S.now ≤ 16777216) (wi : (Lit.int .i64 id).wf = true) (hyes : hasId S.L id = true) :
    Calls Try.prog 10 #[.pointer (some ⟨pb, 0, none⟩), .int .i64 at_, .int .i64 id] w fun e w' => e = .returned (.int .i64 6) ∧ Below w.heap.size w w' := by
  obtain ⟨D, hown, hr⟩ := h.own
  have c0 := h.c0
  have c2 := h.c2
  have hh : Maps.has D (ky id) = true := by rw [hr.any]; exact hyes
  clear h hr hyes
  have d0 : decide (at_ ≤ S.now) = false := by simp; omega
  have d1 : wrap64 (at_ - S.now) = at_ - S.now := by unfold wrap64; omega
  generalize S.now = nw at *
  go_enter Try.func10, Try.ntmps10
  go_wp2_with (first
    | (at_lookup; refine wpList_lookup_tm _ rfl _ _ 51 rfl 3 55 lawK Try.underlying51 (zeroT _) bm _ D rfl hown _ _ rfl (keyOf_int_mk Try.underlying3 wi) _ hh ?_; intro d0 d1 d2; clear hown)
    | go_in)
  go_ret
  exact ⟨rfl, (Below.refl _ _).alloc (Nat.le_refl _) _⟩

set_option maxRecDepth 100000 in
theorem add_full {w : World} {pb bm : Nat} {S : Wh} {at_ id : Int} (h : Whl w pb bm S) (hc : S.now < at_) (hf : at_ - S.now ≤ 16777216) (wi : (Lit.int .i64 id).wf = true) (hno : hasId S.L id = false) (hl : 200 ≤ S.L.length) :
    Calls Try.prog 10 #[.pointer (some ⟨pb, 0, none⟩), .int .i64 at_, .int .i64 id] w fun e w' => e = .returned (.int .i64 7) ∧ Below w.heap.size w w' := by
  obtain ⟨D, hown, hr⟩ := h.own
  have c0 := h.c0
  have c2 := h.c2
  have c2a := cell_alloc c2
  have hh : Maps.has D (ky id) = false := hr.no (hasId_false hno)
  have hsz : (200 : Int) ≤ (Maps.size D : Int) := by rw [hr.size]; omega
  clear h hr hno
  have d0 : decide (at_ ≤ S.now) = false := by simp; omega
  have d1 : wrap64 (at_ - S.now) = at_ - S.now := by unfold wrap64; omega
  generalize S.now = nw at *
  go_enter Try.func10, Try.ntmps10
  go_wp2_with (first
    | (at_lookup; refine wpList_lookup_tm _ rfl _ _ 51 rfl 3 55 lawK Try.underlying51 (zeroT _) bm _ D rfl hown _ _ rfl (keyOf_int_mk Try.underlying3 wi) _ hh ?_; intro d0 d1 d2)
    | (at_len; refine wpList_len_own _ rfl _ 51 rfl 3 55 Try.underlying51 tmElem bm _ D rfl (hown.alloc _) ?_; clear hown)
    | go_in)
  go_ret
  exact ⟨rfl, (Below.refl _ _).alloc (Nat.le_refl _) _⟩

set_option maxRecDepth 100000 in
theorem add_ok {w : World} {pb bm : Nat} {S : Wh} {at_ id : Int} (h : Whl w pb bm S) (hc : S.now < at_) (hf : at_ - S.now ≤ 16777216) (wi : (Lit.int .i64 id).wf = true) (hno : hasId S.L id = false) (hl : S.L.length < 200) (ht0 : 0 ≤ S.turns) (ht1 : S.turns < 4611686018427387904) :
    Calls Try.prog 10 #[.pointer (some ⟨pb, 0, none⟩), .int .i64 at_, .int .i64 id] w fun e w' => e = .returned (.int .i64 0) ∧ Whl w' pb bm ⟨S.now, S.turns + 1, S.L ++ [⟨at_, id, S.turns⟩]⟩ ∧ Kp pb bm w w' := by
  have h0 := h
  obtain ⟨D, hown, hr⟩ := h.own
  have c0 := h.c0
  have c1 := h.c1
  have c2 := h.c2
  have c2a := cell_alloc c2
  have c1a := cell_alloc c1
  have hh : Maps.has D (ky id) = false := hr.no (hasId_false hno)
  have hsz : (Maps.size D : Int) < 200 := by rw [hr.size]; omega
  have hmx : Hid (S.L.length < maxLen) := by show S.L.length < maxLen; unfold maxLen; omega
  have hr0 : Hid (Rep D S.L) := hr
  clear h hr
  have d0 : decide (at_ ≤ S.now) = false := by simp; omega
  have d1 : wrap64 (at_ - S.now) = at_ - S.now := by unfold wrap64; omega
  have d2 : wrap64 (S.turns + 1) = S.turns + 1 := by unfold wrap64; omega
  generalize hnw : S.now = nw at *
  generalize htn : S.turns = tn at *
  go_enter Try.func10, Try.ntmps10
  go_wp2_with (first
    | (at_lookup; refine wpList_lookup_tm _ rfl _ _ 51 rfl 3 55 lawK Try.underlying51 (zeroT _) bm _ D rfl hown _ _ rfl (keyOf_int_mk Try.underlying3 wi) _ hh ?_; intro d0 d1 d2)
    | (at_len; refine wpList_len_own _ rfl _ 51 rfl 3 55 Try.underlying51 tmElem bm _ D rfl (hown.alloc _) ?_)
    | go_in)
  have hk0 : Kp pb bm w (w.alloc (Obj.cells #[.int .i64 d0, .int .i64 d1, .int .i64 d2] 55)) := Kp.alloc w _
  have ho := hown.alloc (Obj.cells #[.int .i64 d0, .int .i64 d1, .int .i64 d2] 55)
  have q0 := cell_alloc c0 (Obj.cells #[.int .i64 d0, .int .i64 d1, .int .i64 d2] 55)
  have q1 := c1a (Obj.cells #[.int .i64 d0, .int .i64 d1, .int .i64 d2] 55)
  have q2 := c2a (Obj.cells #[.int .i64 d0, .int .i64 d1, .int .i64 d2] 55)
  have g0 := frozen_alloc c0 h0.f0 (Obj.cells #[.int .i64 d0, .int .i64 d1, .int .i64 d2] 55)
  have g1 := frozen_alloc c1 h0.f1 (Obj.cells #[.int .i64 d0, .int .i64 d1, .int .i64 d2] 55)
  clear c1a c2a hown
  generalize w.alloc (Obj.cells #[.int .i64 d0, .int .i64 d1, .int .i64 d2] 55) = wq at *
  have s1 : ({ wq with drawn := wq.drawn + 1 } : World).cell? ⟨pb, 1, none⟩ = some (.int .i64 tn) := q1
  have s2 : ({ wq with drawn := wq.drawn + 1 } : World).cell? ⟨pb, 2, none⟩ = some (.map (some bm)) := q2
  go_still_tail 13, (by kernel_rfl)
  refine wpList_mapUpdate_in _ rfl _ _ _ 51 rfl 3 55 lawK Try.underlying51 tmElem bm _ D rfl ho hmx.out _ _ _ rfl rfl (keyOf_int_mk Try.underlying3 wi) (dT ⟨at_, id, tn⟩) [] rfl ?_
  intro w1 hown1 hturn1
  have hb : ∀ k, k ≠ bm → w1.heap[k]? = wq.heap[k]? := by
    obtain ⟨es, clock, es', clock', hb, rfl⟩ := hturn1
    exact fun k hk => ChangeMaps.heap_setBlock_other hb _ hk
  have hp := hb pb h0.ne
  have r0 : w1.cell? ⟨pb, 0, none⟩ = some (.int .i64 nw) := (World.cell?_of_block (w := wq) (a := ⟨pb, 0, none⟩) hp).trans q0
  have r1 : w1.cell? ⟨pb, 1, none⟩ = some (.int .i64 tn) := (World.cell?_of_block (w := wq) (a := ⟨pb, 1, none⟩) hp).trans q1
  have r2 : w1.cell? ⟨pb, 2, none⟩ = some (.map (some bm)) := (World.cell?_of_block (w := wq) (a := ⟨pb, 2, none⟩) hp).trans q2
  have e0 : w1.frozen? ⟨pb, 0, none⟩ = false := (World.frozen?_of_block (w := wq) (a := ⟨pb, 0, none⟩) hp).trans g0
  have e1 : w1.frozen? ⟨pb, 1, none⟩ = false := (World.frozen?_of_block (w := wq) (a := ⟨pb, 1, none⟩) hp).trans g1
  have hk1 : Kp pb bm wq w1 := (Kp.drew wq).trans (Kp.of_grown hturn1.grown)
  have hr := hr0.out.put ⟨at_, id, tn⟩ (hasId_false hno)
  have hsz1 : Maps.size (D.put (ky id) (dT ⟨at_, id, tn⟩)) = (S.L ++ [(⟨at_, id, tn⟩ : Tm)]).length := hr.size
  have ho1 : w1.ownsMap Try.prog 3 tmElem bm (S.L ++ [(⟨at_, id, tn⟩ : Tm)]).length (D.put (ky id) (dT ⟨at_, id, tn⟩)) := by
    have := owns_size hown1
    rw [show Maps.size (D.put (.int .i64 id) (dT ⟨at_, id, tn⟩)) = _ from hsz1] at this
    exact this
  have hne := h0.ne
  have HW : Whl (w1.setCell ⟨pb, 1, none⟩ (.int .i64 (tn + 1))) pb bm ⟨nw, tn + 1, S.L ++ [⟨at_, id, tn⟩]⟩ := by
    refine ⟨?_, ?_, ?_, ?_, ?_, _, ho1.setCell (a := ⟨pb, 1, none⟩) (fun e => hne e.symm) _, hr⟩
    · go_simp
    · go_simp
    · go_simp
    · rw [World.frozen?_setCell]; exact e0
    · rw [World.frozen?_setCell]; exact e1
  have HK : Kp pb bm w (w1.setCell ⟨pb, 1, none⟩ (.int .i64 (tn + 1))) := (hk0.trans hk1).trans (Kp.setCell w1 1 _)
  clear hown1 hturn1 ho1 hr hr0 hk0 hk1 hb ho s1 s2 q0 q1 q2 hsz1 h0
  go_wp2
  go_ret
  exact ⟨rfl, HW, HK⟩

/-- Add. -/
theorem add_any {w : World} {pb bm : Nat} {S : Wh} {at_ id : Int} {k : Nat} (h : Whl w pb bm S) (hk : Ok k S) (hk2 : k ≤ 1000000) (wa : at_ < 9223372036854775808) (wi : (Lit.int .i64 id).wf = true) :
    Calls Try.prog 10 #[.pointer (some ⟨pb, 0, none⟩), .int .i64 at_, .int .i64 id] w fun e w' => e = .returned (.int .i64 (addE S at_ id)) ∧ Whl w' pb bm (addS S at_ id) ∧ Kp pb bm w w' := by
  have n0 := hk.now0
  have t0 := hk.trn0
  have t1 := hk.trnk
  by_cases h1 : at_ ≤ S.now
  · have e : addE S at_ id = 11 := by simp [addE, h1]
    have e2 : addS S at_ id = S := by simp [addS, e]
    rw [e, e2]
    exact (add_late h h1).mono fun _ _ ⟨he, hb⟩ => ⟨he, h.below hb h.lt h.ltm, Kp.of_below hb⟩
  by_cases h2 : 16777216 < at_ - S.now
  · have e : addE S at_ id = 4 := by simp [addE, h1, h2]
    have e2 : addS S at_ id = S := by simp [addS, e]
    rw [e, e2]
    exact (add_far h n0 wa (by omega) h2).mono fun _ _ ⟨he, hb⟩ => ⟨he, h.below hb h.lt h.ltm, Kp.of_below hb⟩
  cases h3 : hasId S.L id
  · by_cases h4 : 200 ≤ S.L.length
    · have e : addE S at_ id = 7 := by simp [addE, h1, h2, h3, h4]
      have e2 : addS S at_ id = S := by simp [addS, e]
      rw [e, e2]
      exact (add_full h (by omega) (by omega) wi h3 h4).mono fun _ _ ⟨he, hb⟩ => ⟨he, h.below hb h.lt h.ltm, Kp.of_below hb⟩
    · have e : addE S at_ id = 0 := by simp [addE, h1, h2, h3, h4]
      have e2 : addS S at_ id = ⟨S.now, S.turns + 1, S.L ++ [⟨at_, id, S.turns⟩]⟩ := by simp [addS, e]
      rw [e, e2]
      exact add_ok h (by omega) (by omega) wi h3 (by omega) t0 (by omega)
  · have e : addE S at_ id = 6 := by simp [addE, h1, h2, h3]
    have e2 : addS S at_ id = S := by simp [addS, e]
    rw [e, e2]
    exact (add_there h (by omega) (by omega) wi h3).mono fun _ _ ⟨he, hb⟩ => ⟨he, h.below hb h.lt h.ltm, Kp.of_below hb⟩
end Go.Proofs.Ytejfogajlddaeaa
