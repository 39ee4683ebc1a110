/- The queue's own calls, walked: New, Put, Raise, Drop, Take. -/
import Derived.Test.YthkhlgannimebaaQup
namespace Go.Proofs.Ythkhlgannimebaa
open Go.RowKit Go.Maps Go.Sort Qum
set_option linter.unusedSectionVars false

/-- The queue S lies in the block qb, its map in the block bm. -/
def Que (B : Nat) (w : World) (qb bm : Nat) (S : Qu) : Prop :=
  ∃ v H D, Pl B w qb S.turns bm v H ∧ Hp H H.length ∧ (H.map (·.x)).Perm S.L ∧ w.ownsMap Try.prog 3 ptElem bm H.length D ∧ Rep D H ∧ B ≤ bm

theorem owns_size {w : World} {k : TypeId} {b n : Nat} {D : DataW Unit} (h : w.ownsMap Try.prog k ptElem b n D) : w.ownsMap Try.prog k ptElem b (Maps.size D) D := by
  obtain ⟨es, clock, hb, F, hs, rfl⟩ := h
  exact ⟨es, clock, hb, F, by simp [Maps.size, length_sorted], rfl⟩
theorem owns_kept {w w' : World} {k : TypeId} {b n : Nat} {D : DataW Unit} (h : w.ownsMap Try.prog k ptElem b n D) (hk : w'.heap[b]? = w.heap[b]?) : w'.ownsMap Try.prog k ptElem b n D := by
  obtain ⟨es, clock, hb, r⟩ := h
  exact ⟨es, clock, hk.trans hb, r⟩
theorem owns_untagd {w : World} {k : TypeId} {b n : Nat} {D : DataW Unit} (h : w.ownsMap Try.prog k ptElem b n D) : tagd w b = false := by
  obtain ⟨es, clock, hb, r⟩ := h
  simp [tagd, hb]
theorem Fq.map {B : Nat} {w w' : World} {k : TypeId} {b n : Nat} {D : DataW Unit} (h : Fq B none w w') (ho : w.ownsMap Try.prog k ptElem b n D) : w'.ownsMap Try.prog k ptElem b n D :=
  owns_kept ho (h.oth b ho.lt (by simp) (owns_untagd ho))

/-- The pile looks only at blocks of its own make. -/
theorem Pl.own {B : Nat} {w w' : World} {qb bm : Nat} {tn : Int} {v : Value} {H : List Nd} (h : Pl B w qb tn bm v H) (hk : ∀ k, k < w.heap.size → tagd w k = true → w'.heap[k]? = w.heap[k]?) : Pl B w' qb tn bm v H := by
  refine ⟨⟨h.row.1, ?_⟩, fun k hk' => ?_, h.bas, h.dis, (hk qb h.lt h.tagq).trans h.que, h.qbs⟩
  · rcases h.row.2 with h0 | ⟨g, cap, cur, hv, hb, hg, r⟩
    · exact Or.inl h0
    · exact Or.inr ⟨g, cap, cur, hv, hb, (hk g (Array.getElem?_eq_some_iff.1 hg).1 (by simp [tagd, hg])).trans hg, r⟩
  · have := h.thg k hk'
    rw [hk _ (Array.getElem?_eq_some_iff.1 this).1 (h.tagt hk'), this]
theorem Pl.alloc {B : Nat} {w : World} {qb bm : Nat} {tn : Int} {v : Value} {H : List Nd} (h : Pl B w qb tn bm v H) (o : Obj) : Pl B (w.alloc o) qb tn bm v H := h.kept fun k hk => Below.heap_alloc w o k hk
theorem Pl.turn {B : Nat} {w : World} {qb bm : Nat} {tn : Int} {v : Value} {H : List Nd} (h : Pl B w qb tn bm v H) (t : Int) : Pl B (w.setCell ⟨qb, 0, none⟩ (.int .i64 t)) qb t bm v H := by
  have gb : ∀ k, v.ownBlock = some k → k ≠ qb := by
    intro k hk e
    rcases h.row.2 with ⟨rfl, _⟩ | ⟨g, cap, cur, rfl, _, hg, _⟩
    · simp [Value.ownBlock] at hk
    · simp [Value.ownBlock] at hk
      rw [hk, e, h.que] at hg
      simp at hg
  refine ⟨h.row.kept (w' := w.setCell ⟨qb, 0, none⟩ (.int .i64 t)) (row := some qb) ⟨rfl, rfl, rfl, by simp, fun k _ hk => heap_setCell_other _ ⟨_, _, _⟩ k _ (fun e => hk (by simp [e]))⟩ ?_, fun k hk => ?_, h.bas, h.dis, heap_setCell_same w qb 0 _ _ _ h.que, h.qbs⟩
  · cases hv : v.ownBlock with
    | none => exact Or.inl rfl
    | some q => right; intro e; cases e; exact gb _ hv rfl
  · rw [Below.heap_setCell _ _ _ _ (h.tq hk)]; exact h.thg k hk

theorem Que.lt {B : Nat} {w : World} {qb bm : Nat} {S : Qu} (h : Que B w qb bm S) : qb < w.heap.size := by obtain ⟨v, H, D, h1, _⟩ := h; exact h1.lt
theorem Que.base {B : Nat} {w : World} {qb bm : Nat} {S : Qu} (h : Que B w qb bm S) : B ≤ w.heap.size := by obtain ⟨v, H, D, h1, _⟩ := h; exact h1.base
/-- What does not touch the queue's own blocks leaves it. -/
theorem Que.own {B : Nat} {w w' : World} {qb bm : Nat} {S : Qu} (h : Que B w qb bm S) (hk : ∀ k, k < w.heap.size → tagd w k = true → w'.heap[k]? = w.heap[k]?) (hb : w'.heap[bm]? = w.heap[bm]?) : Que B w' qb bm S := by
  obtain ⟨v, H, D, h1, h2, h3, h4, h5, h6⟩ := h
  exact ⟨v, H, D, h1.own hk, h2, h3, owns_kept h4 hb, h5, h6⟩
theorem Que.ltm {B : Nat} {w : World} {qb bm : Nat} {S : Qu} (h : Que B w qb bm S) : bm < w.heap.size := by obtain ⟨v, H, D, _, _, _, h4, _⟩ := h; exact h4.lt
theorem Que.below {B : Nat} {w w' : World} {qb bm : Nat} {S : Qu} (h : Que B w qb bm S) (hb : Below w.heap.size w w') : Que B w' qb bm S := h.own (fun k hk _ => hb.block k hk) (hb.block bm h.ltm)

theorem cell_alloc {w : World} {a : Addr} {v : Value} (h : w.cell? a = some v) (o : Obj) : (w.alloc o).cell? a = some v := (World.grownBy_alloc w o none).cell h (by simp)
theorem frozen_alloc {w : World} {a : Addr} {v : Value} (h : w.cell? a = some v) (hf : w.frozen? a = false) (o : Obj) : (w.alloc o).frozen? a = false :=
  (World.frozen?_of_block (w := w) (Below.heap_alloc w o a.block (World.block_lt_of_cell? w a h))).trans hf
theorem zeroP (w : World) : (zeroValue 60).run Try.prog w = .ok (.pointer none) w := by kernel_rfl

/-- A look-up in the map of things. -/
theorem wpList_lookup_pt {P : Program} (w : World) {ops : Array Oper} {rest : List Oper} {o : Oper} {a : Act} {Q : Exit → Act → World → Prop} (hg : o.guard = none) (m x : Operand) (t : TypeId) (hop : o.op = Op.lookup t m x true)
    (k e : TypeId) (K : Keyed P k) (ht : P.underlying t = some (.map k e)) (hz : (zeroValue e).run P w = .ok (.pointer none) w) (b n : Nat) (D : DataW Unit)
    (hm : a.eval m = .map (some b)) (hown : w.ownsMap P k ptElem b n D) (key : Value) (kl : Lit) (hx : a.eval x = key) (hkey : keyOf P k key = some kl) (r : Bool) (hr : Maps.has D kl = r)
    (hK : ∀ c : Option Addr, wpList P ops Q rest (a.put o.dst (.tuple #[.pointer c, .bool r])) w) :
    wpList P ops Q (o :: rest) a w :=
  wpList_lookup_own_ok w hg m x t hop k e K ht ptElem hz .nil [] rfl b n D hm hown key kl hx hkey (fun v ps hv => by
    obtain ⟨c, rfl⟩ := ptElem_some hv
    rw [hr]
    exact hK c)
theorem wpList_lookup_yes {P : Program} (w : World) {ops : Array Oper} {rest : List Oper} {o : Oper} {a : Act} {Q : Exit → Act → World → Prop} (hg : o.guard = none) (m x : Operand) (t : TypeId) (hop : o.op = Op.lookup t m x true)
    (k e : TypeId) (K : Keyed P k) (ht : P.underlying t = some (.map k e)) (hz : (zeroValue e).run P w = .ok (.pointer none) w) (b n : Nat) (D : DataW Unit)
    (hm : a.eval m = .map (some b)) (hown : w.ownsMap P k ptElem b n D) (key : Value) (kl : Lit) (hx : a.eval x = key) (hkey : keyOf P k key = some kl) (hr : Maps.has D kl = true) (c : Nat) (hc : ∀ z, D.atKey kl z = dP c)
    (hK : wpList P ops Q rest (a.put o.dst (.tuple #[.pointer (some ⟨c, 0, none⟩), .bool true])) w) :
    wpList P ops Q (o :: rest) a w :=
  wpList_lookup_own_ok w hg m x t hop k e K ht ptElem hz .nil [] rfl b n D hm hown key kl hx hkey (fun v ps hv => by
    rw [hc] at hv
    obtain rfl := ptElem_inv hv
    rw [hr]
    exact hK)

set_option maxRecDepth 100000 in
theorem new_any (w : World) : Calls Try.prog 15 #[] w fun e w' => e = .returned (.pointer (some ⟨w.heap.size + 1, 0, none⟩)) ∧ Que w.heap.size w' (w.heap.size + 1) w.heap.size ⟨0, []⟩ ∧ Below w.heap.size w w' := by
  have hmm := @run_makeMap Try.prog
  go_enter Try.func15, Try.ntmps15
  go_wp2
  go_ret
  have ho := World.ownsMap_made w Try.prog 3 ptElem
  have hb := heap_alloc_new (w.alloc (.map #[] 0)) (.cells #[.int .i64 0, .slice none 0 0, .map (some w.heap.size)] 59)
  simp only [World.size_alloc] at hb
  refine ⟨by simp, ⟨.slice none 0 0, [], .map [], ⟨World.ownsRow_nil _ _ _ _, fun k hk => absurd hk (by simp), fun k hk => absurd hk (by simp), fun k l _ hk => absurd hk (by simp), hb, by omega⟩, fun k _ hk => absurd hk (by simp), .nil, ho.alloc _, Rep.empty, Nat.le_refl _⟩, ((Below.refl _ _).alloc (Nat.le_refl _) _).alloc (by simp) _⟩

theorem perm_ids {H : List Nd} {L : List Th} (h : (H.map (·.x)).Perm L) {id : Int} (hno : hasId L id = false) : ∀ y ∈ H, y.x.i ≠ id := by
  intro y hy
  exact hasId_false hno y.x (h.mem_iff.1 (List.mem_map.2 ⟨y, hy, rfl⟩))
theorem perm_len {H : List Nd} {L : List Th} (h : (H.map (·.x)).Perm L) : H.length = L.length := by simpa using h.length_eq

set_option maxRecDepth 100000 in
theorem put_there {B : Nat} {w : World} {qb bm : Nat} {S : Qu} {p id : Int} (h : Que B w qb bm S) (wi : (Lit.int .i64 id).wf = true) (hyes : hasId S.L id = true) :
    Calls Try.prog 16 #[.pointer (some ⟨qb, 0, none⟩), .int .i64 p, .int .i64 id] w fun e w' => e = .returned (.int .i64 6) ∧ Below w.heap.size w w' := by
  obtain ⟨v, H, D, hP, _, hperm, hown, hr, _⟩ := h
  have c2 := hP.slot2
  have hh : Maps.has D (ky id) = true := by
    obtain ⟨y, hy, e⟩ := hasId_true hyes
    obtain ⟨z, hz, e2⟩ := List.mem_map.1 (hperm.mem_iff.2 hy)
    exact hr.yes hz (by rw [← e, ← e2])
  clear hP hr hyes hperm
  go_enter Try.func16, Try.ntmps16
  go_wp2_with (first
    | (at_lookup; refine wpList_lookup_pt _ rfl _ _ 55 rfl 3 60 lawK Try.underlying55 (zeroP _) bm _ D rfl hown _ _ rfl (keyOf_int_mk Try.underlying3 wi) _ hh ?_; intro c; clear hown)
    | go_in)
  go_ret
  exact ⟨rfl, Below.refl _ _⟩

set_option maxRecDepth 100000 in
theorem put_full {B : Nat} {w : World} {qb bm : Nat} {S : Qu} {p id : Int} (h : Que B w qb bm S) (wi : (Lit.int .i64 id).wf = true) (hno : hasId S.L id = false) (hl : 200 ≤ S.L.length) :
    Calls Try.prog 16 #[.pointer (some ⟨qb, 0, none⟩), .int .i64 p, .int .i64 id] w fun e w' => e = .returned (.int .i64 7) ∧ Below w.heap.size w w' := by
  obtain ⟨v, H, D, hP, _, hperm, hown, hr, _⟩ := h
  have c2 := hP.slot2
  have hh : Maps.has D (ky id) = false := hr.no (perm_ids hperm hno)
  have hsz : (200 : Int) ≤ (Maps.size D : Int) := by rw [hr.size, perm_len hperm]; omega
  clear hP hr hno hperm
  go_enter Try.func16, Try.ntmps16
  go_wp2_with (first
    | (at_lookup; refine wpList_lookup_pt _ rfl _ _ 55 rfl 3 60 lawK Try.underlying55 (zeroP _) bm _ D rfl hown _ _ rfl (keyOf_int_mk Try.underlying3 wi) _ hh ?_; intro c)
    | (at_len; refine wpList_len_own _ rfl _ 55 rfl 3 60 Try.underlying55 ptElem bm _ D rfl hown ?_; clear hown)
    | go_in)
  go_ret
  exact ⟨rfl, Below.refl _ _⟩

theorem put_mid {B : Nat} {w w3 : World} {qb bm : Nat} {tn : Int} {v : Value} {H : List Nd} {p id : Int} (h : Pl B w qb tn bm v H) (hl : H.length < 200) (hh : Hp H H.length) (hne : bm ≠ qb) (hg : ((w.alloc (.cells #[.int .i64 p, .int .i64 id, .int .i64 tn, .int .i64 0] 63)).setCell ⟨qb, 0, none⟩ (.int .i64 (tn + 1))).grownBy w3 (some bm)) (hb : bm < w.heap.size ∧ tagd w bm = false) :
    Calls Try.prog 27 #[hv qb, .iface 60 (ptV w.heap.size)] w3 fun e w' => e = .returned (.tuple #[]) ∧ ∃ v' H', Pl B w' qb (tn + 1) bm v' H' ∧ H'.Perm (H ++ [⟨w.heap.size, ⟨p, id, tn⟩⟩]) ∧ Hp H' H'.length ∧ Fq B none w3 w' := by
  have hP3 : Pl B w3 qb (tn + 1) bm v H := ((h.alloc _).turn (tn + 1)).own (fun k hk ht => hg.block k hk (fun e => by
    cases e
    have e1 : ((w.alloc (.cells #[.int .i64 p, .int .i64 id, .int .i64 tn, .int .i64 0] 63)).setCell ⟨qb, 0, none⟩ (.int .i64 (tn + 1))).heap[bm]? = w.heap[bm]? := by rw [Below.heap_setCell _ _ _ _ hne, Below.heap_alloc _ _ _ hb.1]
    rw [tagd_of e1, hb.2] at ht
    cases ht))
  have hql := h.lt
  have hb3 : w3.heap[w.heap.size]? = some (thO ⟨p, id, tn⟩ 0) := by
    rw [hg.block w.heap.size (by simp) (fun e => by cases e; exact absurd hb.1 (Nat.lt_irrefl _)), Below.heap_setCell _ _ _ _ (by show w.heap.size ≠ qb; omega)]
    exact heap_alloc_new w _
  exact hpush_any hP3 (by omega) hh hb3 h.base (fun k hk => by
    have := (Array.getElem?_eq_some_iff.1 (h.thg k hk)).1
    omega)
theorem put_fq {B : Nat} {w w3 w4 : World} {qb bm : Nat} {tn : Int} {v : Value} {H : List Nd} {o : Obj} {u : Value} (h : Pl B w qb tn bm v H) (hg : ((w.alloc o).setCell ⟨qb, 0, none⟩ u).grownBy w3 (some bm)) (hBm : B ≤ bm) (hF : Fq B none w3 w4) : Fq B (some bm) w w4 := by
  have hB := h.base
  have f1 : Fq B (some bm) w (w.alloc o) := Fq.alloc _ _ _ hB
  have f2 : Fq B (some bm) (w.alloc o) ((w.alloc o).setCell ⟨qb, 0, none⟩ u) := Fq.set _ _ _ _ h.qbs (h.alloc o).tagq
  have f3 : Fq B (some bm) ((w.alloc o).setCell ⟨qb, 0, none⟩ u) w3 := Fq.grown hg hBm (by simp; omega) (Or.inr rfl)
  exact ((f1.trans f2).trans f3).trans (hF.wide _)

set_option maxRecDepth 100000 in
theorem put_ok {B : Nat} {w : World} {qb bm : Nat} {S : Qu} {p id : Int} (h : Que B w qb bm S) (wi : (Lit.int .i64 id).wf = true) (hno : hasId S.L id = false) (hl : S.L.length < 200) (ht0 : 0 ≤ S.turns) (ht1 : S.turns < 4611686018427387904) :
    Calls Try.prog 16 #[.pointer (some ⟨qb, 0, none⟩), .int .i64 p, .int .i64 id] w fun e w' => e = .returned (.int .i64 0) ∧ Que B w' qb bm ⟨S.turns + 1, S.L ++ [⟨p, id, S.turns⟩]⟩ ∧ Fq B (some bm) w w' := by
  obtain ⟨v, H, D, hP, hHp, hperm, hown, hr, hBm⟩ := h
  have c2 := hP.slot2
  have c0 := hP.slot0
  have f0 := hP.qfr 0
  have hh : Maps.has D (ky id) = false := hr.no (perm_ids hperm hno)
  have hlen := perm_len hperm
  have hsz : (Maps.size D : Int) < 200 := by rw [hr.size]; omega
  have hP' : Hid (Pl B w qb S.turns bm v H) := hP
  have hown' : Hid (w.ownsMap Try.prog 3 ptElem bm H.length D) := hown
  have hr' : Hid (Rep D H) := hr
  have d2 : wrap64 (S.turns + 1) = S.turns + 1 := by unfold wrap64; omega
  have hneq : bm ≠ qb := fun e => by
    obtain ⟨es, clock, hb, _⟩ := hown
    rw [e, hP.que] at hb
    simp at hb
  have hbm0 := owns_untagd hown
  have hbm1 := hown.lt
  have hne : Hid (bm ≠ qb) := hneq
  have hbmlt : Hid (bm < w.heap.size ∧ tagd w bm = false) := ⟨hbm1, hbm0⟩
  have hmx : Hid (H.length < maxLen) := by show H.length < maxLen; unfold maxLen; omega
  have hlen200 : Hid (H.length < 200) := by show H.length < 200; omega
  generalize htn : S.turns = tn at *
  have hown2 : Hid (((w.alloc (.cells #[.int .i64 p, .int .i64 id, .int .i64 tn, .int .i64 0] 63)).setCell ⟨qb, 0, none⟩ (.int .i64 (tn + 1))).ownsMap Try.prog 3 ptElem bm H.length D) := (hown.alloc _).setCell (a := ⟨qb, 0, none⟩) hneq _
  clear hbm0 hbm1 hneq
  have a0 := cell_alloc c0 (.cells #[.int .i64 p, .int .i64 id, .int .i64 tn, .int .i64 0] 63)
  have a2 := cell_alloc c2 (.cells #[.int .i64 p, .int .i64 id, .int .i64 tn, .int .i64 0] 63)
  have fa := frozen_alloc c0 f0 (.cells #[.int .i64 p, .int .i64 id, .int .i64 tn, .int .i64 0] 63)
  clear hP hr
  go_enter Try.func16, Try.ntmps16
  go_wp2_with (first
    | (at_lookup; refine wpList_lookup_pt _ rfl _ _ 55 rfl 3 60 lawK Try.underlying55 (zeroP _) bm _ D rfl hown _ _ rfl (keyOf_int_mk Try.underlying3 wi) _ hh ?_; intro c)
    | (at_len; refine wpList_len_own _ rfl _ 55 rfl 3 60 Try.underlying55 ptElem bm _ D rfl hown ?_; clear hown)
    | (at_mapUpdate; refine wpList_mapUpdate_own _ rfl _ _ _ 55 rfl 3 60 lawK Try.underlying55 ptElem bm _ D rfl hown2.out hmx.out _ _ _ rfl rfl (keyOf_int_mk Try.underlying3 wi) (dP w.heap.size) [] rfl ?_; intro w3 hown3 hg3; have hpush := put_mid hP'.out hlen200.out hHp hne.out hg3 hbmlt.out; have hown3' : Hid (w3.ownsMap Try.prog 3 ptElem bm (H.length + 1) (D.put (ky id) (dP w.heap.size))) := hown3; clear hown3 a0 a2 fa; unfold hv ptV at hpush)
    | (go_at_call 27; refine hpush.mono ?_; rintro e w4 ⟨rfl, v4, H4, hP4, hperm4, hHp4, hF4⟩; clear hpush)
    | go_in)
  go_ret
  have hrep := hr'.out.put ⟨w.heap.size, ⟨p, id, tn⟩⟩ (perm_ids hperm hno)
  have hl4 : H4.length = H.length + 1 := by rw [hperm4.length_eq]; simp
  refine ⟨rfl, ⟨v4, H4, _, hP4, hHp4, ?_, ?_, hrep.perm hperm4.symm, hBm⟩, ?_⟩
  · refine (hperm4.map _).trans ?_
    rw [List.map_append]
    exact hperm.append_right _
  · rw [hl4]; exact hF4.map hown3'.out
  · exact put_fq hP'.out hg3 hBm hF4

/-- Put. -/
theorem put_any {B : Nat} {w : World} {qb bm : Nat} {S : Qu} {p id : Int} {k : Nat} (h : Que B w qb bm S) (hk : Ok k S) (hk2 : k ≤ 1000000) (wi : (Lit.int .i64 id).wf = true) :
    Calls Try.prog 16 #[.pointer (some ⟨qb, 0, none⟩), .int .i64 p, .int .i64 id] w fun e w' => e = .returned (.int .i64 (putE S id)) ∧ Que B w' qb bm (putS S p id) ∧ Fq B (some bm) w w' := by
  have t0 := hk.trn0
  have t1 := hk.trnk
  cases h3 : hasId S.L id
  · by_cases h4 : 200 ≤ S.L.length
    · have e : putE S id = 7 := by simp [putE, h3, h4]
      have e2 : putS S p id = S := by simp [putS, e]
      rw [e, e2]
      exact (put_full h wi h3 h4).mono fun _ _ ⟨he, hb⟩ => ⟨he, h.below hb, Fq.below_of hb h.base⟩
    · have e : putE S id = 0 := by simp [putE, h3, h4]
      have e2 : putS S p id = ⟨S.turns + 1, S.L ++ [⟨p, id, S.turns⟩]⟩ := by simp [putS, e]
      rw [e, e2]
      exact put_ok h wi h3 (by omega) t0 (by omega)
  · have e : putE S id = 6 := by simp [putE, h3]
    have e2 : putS S p id = S := by simp [putS, e]
    rw [e, e2]
    exact (put_there h wi h3).mono fun _ _ ⟨he, hb⟩ => ⟨he, h.below hb, Fq.below_of hb h.base⟩
end Go.Proofs.Ythkhlgannimebaa
