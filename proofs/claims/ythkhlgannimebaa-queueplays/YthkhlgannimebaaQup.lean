/- The pile's own Push and Pop, and the library's heap over them: Push, Fix, Remove. -/
import Derived.Test.YthkhlgannimebaaQud
import Derived.BigCall
import Derived.Deep.RegionWith
namespace Go.Proofs.Ythkhlgannimebaa
open Go.RowKit Go.Maps Go.Sort Qum
set_option linter.unusedSectionVars false

theorem Pl.form {B : Nat} {w : World} {qb bm : Nat} {tn : Int} {v : Value} {H : List Nd} (h : Pl B w qb tn bm v H) : ∃ p cap, v = .slice p H.length cap := by
  rcases h.row.2 with ⟨rfl, h0⟩ | ⟨g, cap, cur, rfl, _⟩
  · exact ⟨none, 0, by rw [h0]⟩
  · exact ⟨_, cap, rfl⟩
theorem info_ptr : (Try.prog.info? 60).map (fun i => (i.zero, i.size, i.bytes)) = some (some (.pointer none), 1, 8) := by kernel_rfl
theorem cells_new (w : World) (cs : List Value) (t : TypeId) : ∀ j u, cs[j]? = some u → (w.alloc (.cells cs.toArray t)).cell? ((⟨w.heap.size, 0, none⟩ : Addr).add j) = some u := by
  intro j u hu
  rw [Addr.add_lit, Nat.zero_add, cell_of_row _ _ _ _ _ _ (heap_alloc_new w (.cells cs.toArray t))]
  simpa using hu

theorem assert_thing (a : Option Addr) (w : World) : (Instr.typeAssert (.iface 60 (.pointer a)) 20 60 false).run Try.prog w = .ok (.pointer a) w := by kernel_rfl

theorem form_succ {w : World} {B : Nat} {e : TypeId} {size n : Nat} {v : Value} {xs : List Value} (h : w.ownsRow B e size v (n + 1) xs) : ∃ g cap, v = .slice (some ⟨g, 0, none⟩) (n + 1) cap := by
  rcases h.2 with ⟨_, h0⟩ | ⟨g, cap, cur, hv, _⟩
  · omega
  · exact ⟨g, cap, hv⟩
theorem push_kept {w w2 : World} {B qb b : Nat} {v u : Value} {o : Obj} {n : Int} (c1 : w.cell? ⟨qb, 1, none⟩ = some v) (f1 : w.frozen? ⟨qb, 1, none⟩ = false) (hqb : b ≠ qb) (hgb : ∀ k, u.ownBlock = some k → k ≠ b ∧ k ≠ qb ∧ (∃ cur, w.heap[k]? = some (.cells cur 60 (0, 0))) ∧ B ≤ k)
    (hg : ((w.setCell ⟨b, 3, none⟩ (.int .i64 n)).alloc o).grownBy w2 u.ownBlock) : w2.cell? ⟨qb, 1, none⟩ = some v ∧ w2.frozen? ⟨qb, 1, none⟩ = false := by
  have hlt : qb < w.heap.size := World.block_lt_of_cell? w ⟨qb, 1, none⟩ c1
  have e : w2.heap[qb]? = w.heap[qb]? := by
    rw [hg.block qb (by simp; omega) (fun e => (hgb qb e.symm).2.1 rfl), Below.heap_alloc _ _ _ (by simpa using hlt), Below.heap_setCell _ _ _ _ (fun e => hqb e.symm)]
  exact ⟨by rw [World.cell?_of_block (w := w) (a := ⟨qb, 1, none⟩) e]; exact c1, by rw [World.frozen?_of_block (w := w) (a := ⟨qb, 1, none⟩) e]; exact f1⟩

theorem nd_snoc (H : List Nd) (y : Nd) (k : Nat) : nd (H ++ [y]) k = if k = H.length then y else nd H k := by
  unfold nd
  simp only [List.getD_eq_getElem?_getD]
  by_cases e : k = H.length
  · subst e; simp
  · rw [if_neg e]
    by_cases hk : k < H.length
    · rw [List.getElem?_append_left hk]
    · rw [List.getElem?_append_right (by omega), List.getElem?_eq_none (by simp; omega), List.getElem?_eq_none (by omega)]
theorem push_pl {B : Nat} {w w2 : World} {qb bm : Nat} {tn : Int} {u v' : Value} {b k0 : Nat} {x : Th} {H : List Nd} {o : Obj} (h : Pl B w qb tn bm u H) (hb : w.heap[b]? = some (thO x k0)) (hB : B ≤ b) (hd : ∀ k, k < H.length → (nd H k).b ≠ b) (hqb : b ≠ qb)
    (hgb : ∀ k, u.ownBlock = some k → k ≠ b ∧ k ≠ qb ∧ (∃ cur, w.heap[k]? = some (.cells cur 60 (0, 0))) ∧ B ≤ k)
    (hg : ((w.setCell ⟨b, 3, none⟩ (.int .i64 H.length)).alloc o).grownBy w2 u.ownBlock) (hr : w2.ownsRow B 60 1 v' (H.length + 1) (ptrs H ++ [ptV b])) :
    Pl B (w2.setCell ⟨qb, 1, none⟩ v') qb tn bm v' (H ++ [⟨b, x⟩]) ∧ Fq B none w (w2.setCell ⟨qb, 1, none⟩ v') := by
  have old : ∀ k, k < w.heap.size → u.ownBlock ≠ some k → k ≠ b → w2.heap[k]? = w.heap[k]? := fun k hk h1 h2 => by
    rw [hg.block k (by simp; omega) (fun e => h1 e.symm), Below.heap_alloc _ _ _ (by simpa using hk), Below.heap_setCell _ _ _ _ h2]
  have hlb : b < w.heap.size := (Array.getElem?_eq_some_iff.1 hb).1
  have eb : w2.heap[b]? = some (thO x H.length) := by
    rw [hg.block b (by simp; omega) (fun e => (hgb b e.symm).1 rfl), Below.heap_alloc _ _ _ (by simpa using hlb)]
    exact th_place hb H.length
  have eq : w2.heap[qb]? = some (.cells #[.int .i64 tn, u, .map (some bm)] 59 (0, 0)) := by
    rw [old qb h.lt (fun e => (hgb qb e).2.1 rfl) (fun e => hqb e.symm)]; exact h.que
  have et : ∀ k, k < H.length → w2.heap[(nd H k).b]? = some (thO (nd H k).x k) := fun k hk => by
    have := h.thg k hk
    rw [old _ (Array.getElem?_eq_some_iff.1 this).1 (fun e => by obtain ⟨_, _, ⟨cur, hc⟩, _⟩ := hgb _ e; rw [this] at hc; simp [thO] at hc) (hd k hk)]
    exact this
  have hl : (H ++ [(⟨b, x⟩ : Nd)]).length = H.length + 1 := by simp
  refine ⟨⟨?_, ?_, ?_, ?_, heap_setCell_same w2 qb 1 _ _ v' eq, h.qbs⟩, ?_⟩
  · rw [hl, show ptrs (H ++ [(⟨b, x⟩ : Nd)]) = ptrs H ++ [ptV b] by simp [ptrs]]
    refine hr.kept (w' := w2.setCell ⟨qb, 1, none⟩ v') (row := some qb) ⟨rfl, rfl, rfl, by simp, fun k _ hk => heap_setCell_other _ ⟨_, _, _⟩ k _ (fun e => hk (by simp [e]))⟩ ?_
    rcases hr.2 with ⟨rfl, _⟩ | ⟨g, cap, cur, rfl, _, hg', _⟩
    · exact Or.inl rfl
    · right
      intro e
      simp [Value.ownBlock] at e
      rw [e, eq] at hg'
      simp at hg'
  · intro k hk
    rw [nd_snoc]
    split
    · rename_i e
      subst e
      rw [Below.heap_setCell _ _ _ _ (by exact hqb)]; exact eb
    · rename_i e
      have hk' : k < H.length := by rw [hl] at hk; omega
      rw [Below.heap_setCell _ _ _ _ (h.tq hk')]; exact et k hk'
  · intro k hk
    rw [nd_snoc]
    split
    · exact hB
    · exact h.bas k (by rw [hl] at hk; omega)
  · intro k l hkl hll
    rw [hl] at hll
    rw [nd_snoc, nd_snoc, if_neg (by omega)]
    split
    · exact hd k (by omega)
    · exact h.dis k l hkl (by omega)
  · have f1 : Fq B none w (w.setCell ⟨b, 3, none⟩ (.int .i64 H.length)) := Fq.set _ _ _ _ hB (by simp [tagd, hb, thO])
    have hBw := h.base
    have f2 : Fq B none (w.setCell ⟨b, 3, none⟩ (.int .i64 H.length)) ((w.setCell ⟨b, 3, none⟩ (.int .i64 H.length)).alloc o) := Fq.alloc _ _ _ (by simpa using hBw)
    have f3 : Fq B none ((w.setCell ⟨b, 3, none⟩ (.int .i64 H.length)).alloc o) w2 := by
      cases hu : u.ownBlock with
      | none => rw [hu] at hg; exact Fq.grown_none hg (by simp; omega)
      | some g =>
        obtain ⟨h1, h2, ⟨cur, hc⟩, h4⟩ := hgb g hu
        rw [hu] at hg
        have hlg : g < w.heap.size := (Array.getElem?_eq_some_iff.1 hc).1
        refine Fq.grown hg h4 (by simp; omega) (Or.inl ?_)
        have : ((w.setCell ⟨b, 3, none⟩ (.int .i64 H.length)).alloc o).heap[g]? = w.heap[g]? := by rw [Below.heap_alloc _ _ _ (by simpa using hlg), Below.heap_setCell _ _ _ _ h1]
        rw [tagd_of this]
        simp [tagd, hc]
    have f4 : Fq B none w2 (w2.setCell ⟨qb, 1, none⟩ v') := Fq.set _ _ _ _ h.qbs (by simp [tagd, eq])
    exact ((f1.trans f2).trans f3).trans f4

set_option maxRecDepth 100000 in
theorem ppush_any {B : Nat} {w : World} {qb bm : Nat} {tn : Int} {p : Option Addr} {cap b k0 : Nat} {x : Th} {H : List Nd} (h : Pl B w qb tn bm (.slice p H.length cap) H) (hl : H.length ≤ 1000) (hb : w.heap[b]? = some (thO x k0)) (hB : B ≤ b) (hd : ∀ k, k < H.length → (nd H k).b ≠ b) :
    Calls Try.prog 80 #[.pointer (some ⟨qb, 1, none⟩), .iface 60 (ptV b)] w fun e w' => e = .returned (.tuple #[]) ∧ ∃ v', Pl B w' qb tn bm v' (H ++ [⟨b, x⟩]) ∧ Fq B none w w' := by
  have c1 := h.slot
  have d3 := (th_cells hb).2.2.2
  have e3 := th_frozen hb 3
  have f1 := h.qfr 1
  have hta := assert_thing (some ⟨b, 0, none⟩)
  have hqb : b ≠ qb := fun e => by have := h.que; rw [← e, hb] at this; simp [thO] at this
  have hgb : ∀ k, (Value.slice p H.length cap).ownBlock = some k → k ≠ b ∧ k ≠ qb ∧ (∃ cur, w.heap[k]? = some (.cells cur 60 (0, 0))) ∧ B ≤ k := by
    intro k hk
    rcases h.row.2 with ⟨h0, _⟩ | ⟨g', cap', cur, hv, hg1, hg, _⟩
    · rw [h0] at hk; simp [Value.ownBlock] at hk
    · rw [hv] at hk
      simp [Value.ownBlock] at hk
      subst hk
      exact ⟨fun e => by rw [e, hb] at hg; simp [thO] at hg, fun e => by rw [e, h.que] at hg; simp at hg, ⟨cur, hg⟩, hg1⟩
  have hrow0 : (w.setCell ⟨b, 3, none⟩ (.int .i64 H.length)).ownsRow B 60 1 (.slice p H.length cap) H.length (ptrs H) := h.row.kept (w' := w.setCell ⟨b, 3, none⟩ (.int .i64 H.length)) (row := some b) ⟨rfl, rfl, rfl, by simp, fun k _ hk => heap_setCell_other _ ⟨_, _, _⟩ k _ (fun e => hk (by simp [e]))⟩ (by
    cases hv : (Value.slice p H.length cap).ownBlock with
    | none => exact Or.inl rfl
    | some q => right; intro e; cases e; exact (hgb _ hv).1 rfl)
  have hrow : Hid ((w.setCell ⟨b, 3, none⟩ (.int .i64 H.length)).ownsRow B 60 1 (.slice p H.length cap) H.length (ptrs H)) := hrow0
  have hgb' : Hid _ := hgb
  have hP : Hid (Pl B w qb tn bm (.slice p H.length cap) H) := h
  have hb' : Hid (w.heap[b]? = some (thO x k0)) := hb
  have hd' : Hid (∀ k, k < H.length → (nd H k).b ≠ b) := hd
  have hBw : B ≤ w.heap.size := h.base
  have hBl : Hid (b < w.heap.size) := (Array.getElem?_eq_some_iff.1 hb).1
  clear h hb hd hgb hrow0
  unfold ptV
  go_enter Try.func80, Try.ntmps80
  go_wp2_with (first
    | (at_builtin; (obtain ⟨i0, hi, hz0, hz1, hz2⟩ := info_parts info_ptr; refine wpList_append_own _ rfl _ _ 57 rfl B 60 i0 (.pointer none) 1 8 Try.underlying57 hi hz0 hz1 hz2 rfl (by decide) _ _ _ rfl (World.ownsRow.alloc hrow.out _) ⟨w.heap.size, 0, none⟩ 1 1 [.pointer (some ⟨b, 0, none⟩)] rfl rfl (by simpa using cells_new (w.setCell ⟨b, 3, none⟩ (.int .i64 H.length)) [.pointer (some ⟨b, 0, none⟩)] 60) (fun v hv => by simp at hv; subst hv; rfl) (by unfold maxLen; omega) (by omega) (by simp; omega) ?_; intro v' w2 hown2 hgrow2 hnil2; clear hi hz0 hz1 hz2 hnil2; obtain ⟨g2, cap2, rfl⟩ := form_succ hown2; obtain ⟨c2, f2⟩ := push_kept c1 f1 hqb hgb'.out hgrow2; have hown2' : Hid (w2.ownsRow B 60 1 (.slice (some ⟨g2, 0, none⟩) (H.length + 1) cap2) (H.length + 1) (ptrs H ++ [.pointer (some ⟨b, 0, none⟩)])) := hown2; clear hown2))
    | go_in)
  go_end0
  exact ⟨rfl, _, push_pl hP.out hb'.out hB hd'.out hqb hgb'.out hgrow2 hown2'.out⟩

/-- What takes the last one off leaves. -/
theorem pop_pl {B : Nat} {w : World} {qb bm : Nat} {tn : Int} {g cap n : Nat} {H : List Nd} (h : Pl B w qb tn bm (.slice (some ⟨g, 0, none⟩) H.length cap) H) (hn : H.length = n + 1) :
    Pl B ((w.setCell ⟨g, n, none⟩ (.pointer none)).setCell ⟨qb, 1, none⟩ (.slice (some ⟨g, 0, none⟩) n cap)) qb tn bm (.slice (some ⟨g, 0, none⟩) n cap) (H.take n) ∧ Fq B none w ((w.setCell ⟨g, n, none⟩ (.pointer none)).setCell ⟨qb, 1, none⟩ (.slice (some ⟨g, 0, none⟩) n cap)) ∧ ((w.setCell ⟨g, n, none⟩ (.pointer none)).setCell ⟨qb, 1, none⟩ (.slice (some ⟨g, 0, none⟩) n cap)).heap[(nd H n).b]? = some (thO (nd H n).x n) := by
  have hl : (H.take n).length = n := by simp; omega
  have hnd : ∀ k, k < n → nd (H.take n) k = nd H k := fun k hk => by
    rw [nd_get (by omega), nd_get (by omega)]; simp
  have eq : (w.setCell ⟨g, n, none⟩ (.pointer none)).heap[qb]? = some (.cells #[.int .i64 tn, .slice (some ⟨g, 0, none⟩) H.length cap, .map (some bm)] 59 (0, 0)) := by
    rw [Below.heap_setCell _ _ _ _ (fun e => h.gq e.symm)]; exact h.que
  rcases h.row.2 with ⟨h0, _⟩ | ⟨g', cap', cur, hv, hg1, hg, hc1, hc2, hc3, hc4⟩
  · simp at h0
  obtain ⟨rfl, rfl⟩ : g = g' ∧ cap = cap' := by simpa using hv
  have eg := heap_setCell_same w g n cur _ (.pointer none) hg
  refine ⟨⟨⟨by simp [ptrs], Or.inr ⟨g, cap, _, by rw [hl], hg1, (Below.heap_setCell _ _ _ _ h.gq).trans eg, by omega, hc2, by simpa using hc3, ?_⟩⟩, ?_, ?_, ?_, heap_setCell_same _ qb 1 _ _ _ eq, h.qbs⟩, ?_, ?_⟩
  · rw [hl, Nat.mul_one, Array.toList_setIfInBounds, List.take_set_of_le (Nat.le_refl _)]
    rw [hn, Nat.mul_one] at hc4
    have : cur.toList.take n = (cur.toList.take (n + 1)).take n := by rw [List.take_take]; congr 1; omega
    rw [this, hc4]
    simp [ptrs, List.map_take]
  · intro k hk
    rw [hl] at hk
    have hk' : k < H.length := by omega
    rw [hnd k hk, Below.heap_setCell _ _ _ _ (h.tq hk'), Below.heap_setCell _ _ _ _ (fun e => h.gne hk' e.symm)]
    exact h.thg k hk'
  · intro k hk
    rw [hl] at hk
    rw [hnd k hk]; exact h.bas k (by omega)
  · intro k l hkl hll
    rw [hl] at hll
    rw [hnd k (by omega), hnd l hll]
    exact h.dis k l hkl (by omega)
  · exact (Fq.set _ _ _ _ hg1 (by simp [tagd, hg])).trans (Fq.set _ _ _ _ h.qbs (by simp [tagd, eq]))
  · rw [Below.heap_setCell _ _ _ _ (h.tq (by omega)), Below.heap_setCell _ _ _ _ (fun e => h.gne (by omega) e.symm)]
    exact h.thg n (by omega)

set_option maxRecDepth 100000 in
theorem ppop_any {B : Nat} {w : World} {qb bm : Nat} {tn : Int} {g cap n : Nat} {H : List Nd} (h : Pl B w qb tn bm (.slice (some ⟨g, 0, none⟩) H.length cap) H) (hn : H.length = n + 1) (hl : H.length ≤ 1000) :
    Calls Try.prog 79 #[.pointer (some ⟨qb, 1, none⟩)] w fun e w' => e = .returned (.iface 60 (ptV (nd H n).b)) ∧ Pl B w' qb tn bm (.slice (some ⟨g, 0, none⟩) n cap) (H.take n) ∧ Fq B none w w' ∧ w'.heap[(nd H n).b]? = some (thO (nd H n).x n) := by
  have hS : Hid _ := pop_pl h hn
  have c1 := h.slot
  have f1 := h.qfr 1
  have cn := h.cell (k := n) (by omega)
  have fn := h.frz n
  have gq := h.gq
  have hcap : n + 1 ≤ cap := by have := h.gob; obtain ⟨_, _, _, _, h5⟩ := this; omega
  have hn1000 : (n : Int) < 1000 := by omega
  unfold ptV at cn ⊢
  generalize (nd H n).b = bn at *
  rw [hn] at c1
  clear h hn hl
  go_enter Try.func79, Try.ntmps79
  go_wp2
  go_ret
  exact ⟨rfl, hS.out⟩

theorem nd_take {H : List Nd} {n k : Nat} (hk : k < n) : nd (H.take n) k = nd H k := by
  unfold nd
  simp only [List.getD_eq_getElem?_getD]
  rw [List.getElem?_take_of_lt hk]
theorem take_perm {H : List Nd} {n : Nat} (hn : H.length = n + 1) : (nd H n :: H.take n).Perm H := by
  have e : H = H.take n ++ [nd H n] := by
    rw [nd_get (by omega)]
    have := List.take_append_getElem (l := H) (i := n) (by omega)
    rw [this, List.take_of_length_le (by omega)]
  have h2 : (nd H n :: H.take n).Perm (H.take n ++ [nd H n]) := (List.perm_append_singleton _ _).symm
  rw [← e] at h2
  exact h2
theorem hp_take {H : List Nd} {n : Nat} (h : Hp H n) : Hp (H.take n) n := by
  intro k h0 hk
  have := h k h0 hk
  unfold fx at *
  rw [nd_take hk, nd_take (by omega)]
  exact this

theorem push_up {B : Nat} {w : World} {qb bm : Nat} {tn : Int} {g cap b : Nat} {x : Th} {H : List Nd} (h : Pl B w qb tn bm (.slice (some ⟨g, 0, none⟩) (H.length + 1) cap) (H ++ [⟨b, x⟩])) (hl : H.length ≤ 500) (hu : ∀ f' : Nat → Th, (∀ k, k < H.length → f' k = fx H k) → UpF f' (H.length + 1) H.length) :
    Calls Try.prog 33 #[hv qb, .int .i64 H.length] w fun e w' => e = .returned (.tuple #[]) ∧ ∃ H', Pl B w' qb tn bm (.slice (some ⟨g, 0, none⟩) (H ++ [(⟨b, x⟩ : Nd)]).length cap) H' ∧ H'.length = (H ++ [(⟨b, x⟩ : Nd)]).length ∧ H'.Perm (H ++ [⟨b, x⟩]) ∧ Hp H' (H.length + 1) ∧ (∀ k, H.length + 1 ≤ k → nd H' k = nd (H ++ [⟨b, x⟩]) k) ∧ Fq B none w w' := by
  have hl2 : (H ++ [(⟨b, x⟩ : Nd)]).length = H.length + 1 := by simp
  refine up_any (H := H ++ [⟨b, x⟩]) (n := H.length + 1) (by rw [hl2]; exact h) (by omega) (by omega) (by omega) (hu _ fun k hk => ?_)
  unfold fx
  rw [nd_snoc, if_neg (by omega)]

set_option maxRecDepth 100000 in
theorem hpush_any {B : Nat} {w : World} {qb bm : Nat} {tn : Int} {v : Value} {b k0 : Nat} {x : Th} {H : List Nd} (h : Pl B w qb tn bm v H) (hl : H.length ≤ 500) (hh : Hp H H.length) (hb : w.heap[b]? = some (thO x k0)) (hB : B ≤ b) (hd : ∀ k, k < H.length → (nd H k).b ≠ b) :
    Calls Try.prog 27 #[hv qb, .iface 60 (ptV b)] w fun e w' => e = .returned (.tuple #[]) ∧ ∃ v' H', Pl B w' qb tn bm v' H' ∧ H'.Perm (H ++ [⟨b, x⟩]) ∧ Hp H' H'.length ∧ Fq B none w w' := by
  obtain ⟨p, cap, rfl⟩ := h.form
  have hpush := ppush_any h (by omega) hb hB hd
  have hup : Hid (∀ f' : Nat → Th, (∀ k, k < H.length → f' k = fx H k) → UpF f' (H.length + 1) H.length) := fun f' e => up_push hh e
  have hm := meth_push qb w
  have hl2 : (H.length : Int) ≤ 500 := by omega
  unfold hv
  clear h hh hb hB hd
  go_enter Try.func27, Try.ntmps27
  go_wp2_with (first
    | (go_at_call 80; refine hpush.mono ?_; rintro e w1 ⟨rfl, v1, hP1, hF1⟩; obtain ⟨g1, cap1, rfl, _⟩ := hP1.len (by simp); have hm1 := meth_len _ _ _ hP1.slot; have hlen1 := len_any (some ⟨g1, 0, none⟩) (H ++ [(⟨b, x⟩ : Nd)]).length cap1 w1; simp only [List.length_append, List.length_singleton] at hm1 hlen1 hP1)
    | (go_at_call 76; refine hlen1.mono ?_; rintro e w2 ⟨rfl, rfl⟩; have hup1 := push_up hP1 hl hup.out; unfold hv at hup1)
    | (go_at_call 33; refine hup1.mono ?_; rintro e w3 ⟨rfl, H3, hP3, hl3, hp3, hh3, hk3, hF3⟩)
    | go_in)
  go_end0
  simp only [List.length_append, List.length_singleton] at hl3
  exact ⟨rfl, _, H3, hP3, hp3, by rw [hl3]; exact hh3, hF1.trans hF3⟩

set_option maxRecDepth 100000 in
theorem hfix_any {B : Nat} {w : World} {qb bm : Nat} {tn : Int} {g cap i : Nat} {H : List Nd} (h : Pl B w qb tn bm (.slice (some ⟨g, 0, none⟩) H.length cap) H) (hl : H.length ≤ 500) (hi : i < H.length) (hf : FxF (fx H) H.length i) :
    Calls Try.prog 29 #[hv qb, .int .i64 i] w fun e w' => e = .returned (.tuple #[]) ∧ ∃ v' H', Pl B w' qb tn bm v' H' ∧ H'.Perm H ∧ Hp H' H'.length ∧ Fq B none w w' := by
  have hm := meth_len _ _ _ h.slot
  have hlen := len_any (some ⟨g, 0, none⟩) H.length cap w
  have hdown := down_any h hi (Nat.le_refl _) (by omega) hf
  unfold hv at *
  clear h hf
  go_enter Try.func29, Try.ntmps29
  go_wp2_with (first
    | (go_at_call 76; refine hlen.mono ?_; rintro e w2 ⟨rfl, rfl⟩)
    | (go_at_call 35; refine hdown.mono ?_; rintro e w1 ⟨c, rfl, hD⟩; clear hdown hlen hm; refine Decidable.byCases (p := i < c) ?_ ?_)
    | go_in)
  · intro hc'
    obtain ⟨H1, hP1, hl1, hp1, hh1, _, _, hF1⟩ := hD
    have hh2 := hh1 hc'
    clear hh1
    go_wp2
    go_end0
    exact ⟨rfl, _, H1, hP1, hp1, by rw [hl1]; exact hh2, hF1⟩
  · intro hc'
    obtain ⟨H1, hP1, hl1, hp1, _, hu1, _, hF1⟩ := hD
    have hu2 := hu1 (by omega)
    have hcd : decide (i < c) = false := decide_eq_false (by omega)
    have hup := up_any (H := H1) (n := H.length) (by rw [hl1]; exact hP1) hi (by omega) (by omega) hu2
    have hl1' : Hid (H1.length = H.length) := hl1
    unfold hv at hup
    clear hu1 hu2 hP1 hl1
    go_wp2_with (first | (go_at_call 33; refine hup.mono ?_; rintro e w3 ⟨rfl, H3, hP3, hl3, hp3, hh3, hk3, hF3⟩) | go_in)
    go_end0
    exact ⟨rfl, _, H3, hP3, hp3.trans hp1, by rw [hl3, hl1'.out]; exact hh3, hF1.trans hF3⟩

/-- What taking one out of the heap leaves. -/
def RemR (B qb : Nat) (tn : Int) (bm i : Nat) (H : List Nd) (w w' : World) : Prop := ∃ v' H', Pl B w' qb tn bm v' H' ∧ (nd H i :: H').Perm H ∧ Hp H' H'.length ∧ Fq B none w w' ∧ ∃ k, w'.heap[(nd H i).b]? = some (thO (nd H i).x k)

set_option maxHeartbeats 1000000 in
set_option maxRecDepth 100000 in
theorem hrem_any {B : Nat} {w : World} {qb bm : Nat} {tn : Int} {g cap i n : Nat} {H : List Nd} (h : Pl B w qb tn bm (.slice (some ⟨g, 0, none⟩) H.length cap) H) (hn : H.length = n + 1) (hl : H.length ≤ 500) (hi : i ≤ n) (hh : Hp H H.length) :
    Calls Try.prog 34 #[hv qb, .int .i64 i] w fun e w' => e = .returned (.iface 60 (ptV (nd H i).b)) ∧ RemR B qb tn bm i H w w' := by
  have hm := meth_len _ _ _ h.slot
  have hlen := len_any (some ⟨g, 0, none⟩) H.length cap w
  rw [hn] at hm hlen
  have hn5 : (n : Int) ≤ 500 := by omega
  by_cases hin : i = n
  · subst hin
    have hpop := ppop_any h hn (by omega)
    have hm2 := meth_pop qb w
    have hR : Hid (∀ w', Pl B w' qb tn bm (.slice (some ⟨g, 0, none⟩) i cap) (H.take i) → Fq B none w w' → w'.heap[(nd H i).b]? = some (thO (nd H i).x i) → RemR B qb tn bm i H w w') := fun w' h1 h2 h3 => ⟨_, _, h1, take_perm hn, by
      rw [show (H.take i).length = i by simp; omega]
      exact hp_take (fun k k0 k1 => hh k k0 (by omega)), h2, _, h3⟩
    unfold hv at *
    clear h hh
    go_enter Try.func34, Try.ntmps34
    go_wp2_with (first
      | (go_at_call 76; refine hlen.mono ?_; rintro e w2 ⟨rfl, rfl⟩)
      | (go_at_call 79; refine hpop.mono ?_; rintro e w3 ⟨rfl, hP3, hF3, ht3⟩)
      | go_in)
    go_ret
    exact ⟨rfl, hR.out _ hP3 hF3 ht3⟩
  · have hi' : i < n := by omega
    have hiz : ¬ (n : Int) = (i : Int) := by omega
    have hi1 : i < H.length := by omega
    have hn1 : n < H.length := by omega
    have hswap := swap_any h hi1 hn1 hin
    have hm2 := meth_swap _ _ _ h.slot
    rw [hn] at hm2
    have hfx : Hid (FxF (fx (swq H i n)) n i) := fx_of_hp (f := fx H) (m := H.length) hh (by omega) hi1 (fun k hk hne => by
      unfold fx; rw [nd_swq hi1 hn1, if_neg (by omega), if_neg hne])
    have hln : Hid ((swq H i n).length = H.length) := swq_len H i n
    have hsn : Hid (nd (swq H i n) n = nd H i) := by show _ = _; rw [nd_swq hi1 hn1, if_pos rfl]
    have hpm : Hid ((swq H i n).Perm H) := swq_perm hi1 hn1
    have hR : Hid (∀ w0 w1 w' H2, Fq B none w w0 → Fq B none w0 w1 → H2.length = (swq H i n).length → H2.Perm (swq H i n) → Hp H2 n → (∀ k, n ≤ k → nd H2 k = nd (swq H i n) k) → Pl B w' qb tn bm (.slice (some ⟨g, 0, none⟩) n cap) (H2.take n) → Fq B none w1 w' → w'.heap[(nd H2 n).b]? = some (thO (nd H2 n).x n) → RemR B qb tn bm i H w w') := fun w0 w1 w' H2 f0 f1 hl2 hp2 hh2 hk2 h1 h2 h3 => by
      have hl3 : H2.length = n + 1 := by rw [hl2, hln.out, hn]
      refine ⟨_, _, h1, ?_, ?_, (f0.trans f1).trans h2, n, by rw [← hsn.out, ← hk2 n (Nat.le_refl _)]; exact h3⟩
      · have := take_perm hl3
        rw [hk2 n (Nat.le_refl _), hsn.out] at this
        exact (this.trans hp2).trans hpm.out
      · rw [show (H2.take n).length = n by simp; omega]
        exact hp_take hh2
    have hbn : Hid (∀ H2 : List Nd, (∀ k, n ≤ k → nd H2 k = nd (swq H i n) k) → nd H2 n = nd H i) := fun H2 hk => (hk n (Nat.le_refl _)).trans hsn.out
    rw [hn] at hswap
    unfold hv at *
    clear h hh hsn hpm
    go_enter Try.func34, Try.ntmps34
    go_wp2_with (first
      | (go_at_call 76; refine hlen.mono ?_; rintro e w2 ⟨rfl, rfl⟩; clear hlen hm)
      | (go_at_call 78; refine hswap.mono ?_; rintro e w3 ⟨rfl, hP3, hF3⟩; clear hswap hm2; have hdown := down_any (H := swq H i n) (n := n) (i0 := i) (by rw [hln.out, hn]; exact hP3) hi' (by rw [hln.out]; omega) (by rw [hln.out]; omega) hfx.out; unfold hv at hdown)
      | (go_at_call 35; refine hdown.mono ?_; rintro e w1 ⟨c, rfl, hD⟩; clear hdown; refine Decidable.byCases (p := i < c) ?_ ?_)
      | go_in)
    · intro hc'
      obtain ⟨H1, hP1, hl1, hp1, hh1, _, hk1, hF1⟩ := hD
      have hh2 := hh1 hc'
      have hm4 := meth_pop qb w1
      have hpop := ppop_any (H := H1) (n := n) (by rw [hl1]; exact hP1) (by rw [hl1, hln.out, hn]) (by rw [hl1, hln.out]; omega)
      have hl1' : Hid (H1.length = (swq H i n).length) := hl1
      have hk1' : Hid (∀ k, n ≤ k → nd H1 k = nd (swq H i n) k) := hk1
      clear hP1 hl1 hk1 hP3 hh1
      go_wp2_with (first
        | (go_at_call 79; refine hpop.mono ?_; rintro e w5 ⟨rfl, hP5, hF5, ht5⟩)
        | go_in)
      go_ret
      refine ⟨by rw [← hbn.out H1 hk1'.out]; rfl, hR.out _ _ _ H1 hF3 hF1 hl1'.out hp1 hh2 hk1'.out hP5 hF5 ht5⟩
    · intro hc'
      obtain ⟨H1, hP1, hl1, hp1, _, hu1, hk1, hF1⟩ := hD
      have hu2 := hu1 (by omega)
      have hcd : decide (i < c) = false := decide_eq_false (by omega)
      have hup := up_any (H := H1) (n := n) (by rw [hl1]; exact hP1) hi' (by rw [hl1, hln.out]; omega) (by rw [hl1, hln.out]; omega) hu2
      have hl1' : Hid (H1.length = (swq H i n).length) := hl1
      have hk1' : Hid (∀ k, n ≤ k → nd H1 k = nd (swq H i n) k) := hk1
      unfold hv at hup
      clear hu1 hu2 hP1 hl1 hk1 hP3
      go_wp2_with (first
        | (go_at_call 33; refine hup.mono ?_; rintro e w4 ⟨rfl, H3, hP4, hl4, hp4, hh4, hk4, hF4⟩; have hm4 := meth_pop qb w4; have hpop := ppop_any (H := H3) (n := n) (by rw [hl4]; exact hP4) (by rw [hl4, hl1'.out, hln.out, hn]) (by rw [hl4, hl1'.out, hln.out]; omega); have hk4' : Hid (∀ k, n ≤ k → nd H3 k = nd H1 k) := hk4; have hl4' : Hid (H3.length = H1.length) := hl4; clear hup hk4 hl4)
        | (go_at_call 79; refine hpop.mono ?_; rintro e w5 ⟨rfl, hP5, hF5, ht5⟩)
        | go_in)
      go_ret
      have hk5 : ∀ k, n ≤ k → nd H3 k = nd (swq H i n) k := fun k hk => (hk4'.out k hk).trans (hk1'.out k hk)
      refine ⟨by rw [← hbn.out H3 hk5]; rfl, hR.out _ _ _ H3 hF3 (hF1.trans hF4) (hl4'.out.trans hl1'.out) (hp4.trans hp1) hh4 hk5 hP5 hF5 ht5⟩
end Go.Proofs.Ythkhlgannimebaa
