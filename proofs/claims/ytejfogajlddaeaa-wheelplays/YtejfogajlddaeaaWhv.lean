/- Advance, walked: the timers that are due are told by their times and turns, and wait no more. -/
import Derived.Test.YtejfogajlddaeaaWhd
namespace Go.Proofs.Ytejfogajlddaeaa
open Go.RowKit Go.Maps Go.Shelf Go.Lib Go.Sort Whm
set_option linter.unusedSectionVars false
variable [Inhabited Tm]

/-- A list without those whose names stand in another one. -/
def dropAll (L l : List Tm) : List Tm := L.filter fun x => !(l.any fun y => decide (y.i = x.i))
theorem dropAll_nil (L : List Tm) : dropAll L [] = L := by simp [dropAll]
theorem dropAll_snoc (L l : List Tm) (x : Tm) : dropId (dropAll L l) x.i = dropAll L (l ++ [x]) := by
  unfold dropId dropAll
  rw [List.filter_filter]
  congr 1
  funext y
  simp only [List.any_append, List.any_cons, List.any_nil, Bool.or_false, Bool.not_or]
  rw [Bool.and_comm]
  congr 2
  rw [decide_eq_decide]
  exact ⟨fun h => h.symm, fun h => h.symm⟩
theorem dropAll_due {L l : List Tm} {m : Int} (hp : l.Perm (L.filter (dueB m))) (ids : L.Pairwise (fun x y => x.i ≠ y.i)) : dropAll L l = L.filter fun x => !dueB m x := by
  unfold dropAll
  apply List.filter_congr
  intro x hx
  congr 1
  rw [Bool.eq_iff_iff, List.any_eq_true]
  constructor
  · rintro ⟨y, hy, e⟩
    have hy' := List.mem_filter.1 (hp.mem_iff.1 hy)
    simp at e
    have : y = x := by
      obtain ⟨i, hi, rfl⟩ := List.getElem_of_mem hy'.1
      obtain ⟨j, hj, rfl⟩ := List.getElem_of_mem hx
      rw [List.pairwise_iff_getElem] at ids
      rcases Nat.lt_trichotomy i j with h | h | h
      · exact absurd e (ids i j hi hj h)
      · subst h; rfl
      · exact absurd e.symm (ids j i hj hi h)
    rw [← this]
    exact hy'.2
  · intro hd
    exact ⟨x, hp.mem_iff.2 (List.mem_filter.2 ⟨hx, hd⟩), by simp⟩

theorem Whl_del {w w1 : World} {pb bm n : Nat} {S : Wh} {id : Int} {D : DataW Unit} (h : Whl w pb bm S) (hr : Rep D S.L) (ho : w1.ownsMap Try.prog 3 tmElem bm n (D.del (ky id))) (ht : w.mapTurned w1 bm) : Whl w1 pb bm (canS S id) := by
  have hp : w1.heap[pb]? = w.heap[pb]? := ht.grown.block pb h.lt (fun e => h.ne (by cases e; rfl))
  refine ⟨?_, ?_, ?_, ?_, ?_, _, ?_, hr.del id⟩
  · rw [World.cell?_of_block (w := w) (a := ⟨pb, 0, none⟩) hp]; exact h.c0
  · rw [World.cell?_of_block (w := w) (a := ⟨pb, 1, none⟩) hp]; exact h.c1
  · rw [World.cell?_of_block (w := w) (a := ⟨pb, 2, none⟩) hp]; exact h.c2
  · rw [World.frozen?_of_block (w := w) (a := ⟨pb, 0, none⟩) hp]; exact h.f0
  · rw [World.frozen?_of_block (w := w) (a := ⟨pb, 1, none⟩) hp]; exact h.f1
  · have := owns_size ho
    have e : Maps.size (D.del (ky id)) = (canS S id).L.length := (hr.del id).size
    rw [e] at this
    exact this

theorem Whl_set {w : World} {pb bm : Nat} {S : Wh} (h : Whl w pb bm S) (m : Int) : Whl (w.setCell ⟨pb, 0, none⟩ (.int .i64 m)) pb bm ⟨m, S.turns, S.L⟩ := by
  obtain ⟨D, ho, hr⟩ := h.own
  have c0 := h.c0
  have c1 := h.c1
  have c2 := h.c2
  have hne := h.ne
  refine ⟨?_, ?_, ?_, ?_, ?_, D, ho.setCell (a := ⟨pb, 0, none⟩) (fun e => hne e.symm) _, hr⟩
  · go_simp
  · go_simp
  · go_simp
  · rw [World.frozen?_setCell]; exact h.f0
  · rw [World.frozen?_setCell]; exact h.f1

theorem Whl_alloc {w : World} {pb bm : Nat} {S : Wh} (h : Whl w pb bm S) (o : Obj) : Whl (w.alloc o) pb bm S := h.kept (Below.heap_alloc w o pb h.lt) (Below.heap_alloc w o bm h.ltm)
theorem Whl_drew {w : World} {pb bm : Nat} {S : Wh} (h : Whl w pb bm S) : Whl w.drew pb bm S := h.kept rfl rfl

theorem owns_wf {w : World} {b n : Nat} {D : DataW Unit} {id : Int} (h : w.ownsMap Try.prog 3 tmElem b n D) (hh : Maps.has D (ky id) = true) : (Lit.int .i64 id).wf = true := by
  obtain ⟨es, clock, hb, F, hs, rfl⟩ := h
  rw [Maps.has_eq, List.any_eq_true] at hh
  obtain ⟨p, hp, hk⟩ := hh
  have e := same_ky.1 hk
  obtain ⟨v, hv⟩ := Maps.fit_keys F p (mem_sorted.1 hp)
  obtain ⟨x, _, hx, hw⟩ := Maps.keyOf_int_inv Try.underlying3 hv
  rw [e] at hx
  have : id = x := by simpa [ky] using hx
  rw [this]
  exact hw
theorem Whl_wf {w : World} {pb bm : Nat} {S : Wh} (h : Whl w pb bm S) : ∀ x ∈ S.L, (Lit.int .i64 x.i).wf = true := by
  obtain ⟨D, ho, hr⟩ := h.own
  exact fun x hx => owns_wf ho (hr.yes hx rfl)

theorem ownsRow_base {w : World} {base base' : Nat} {e : TypeId} {size : Nat} {v : Value} {n : Nat} {xs : List Value} (h : w.ownsRow base e size v n xs) (hb : base' ≤ base) : w.ownsRow base' e size v n xs := by
  refine ⟨h.1, ?_⟩
  rcases h.2 with h1 | ⟨g, cap, cur, hv, hg, r⟩
  · exact Or.inl h1
  · exact Or.inr ⟨g, cap, cur, hv, Nat.le_trans hb hg, r⟩
theorem Kp_grown {pb bm : Nat} {w w5 w6 : World} {row : Option Nat} (h : Kp pb bm w w5) (hg : w5.grownBy w6 row) (hr : ∀ k, row = some k → w.heap.size ≤ k) : Kp pb bm w w6 :=
  ⟨hg.os.trans h.os, hg.tape.trans h.tape, hg.output.trans h.output, Nat.le_trans h.size hg.size, fun k hk h1 h2 => (hg.block k (Nat.lt_of_lt_of_le hk h.size) (fun e => by have := hr k e.symm; omega)).trans (h.block k hk h1 h2)⟩
theorem take_snoc {F : List Tm} {j : Nat} (hj : j < F.length) : F.take (j + 1) = F.take j ++ [F[j]!] := by
  rw [getElem!_pos F j hj, List.take_append_getElem]

theorem info_fire : (Try.prog.info? 36).map (fun i => (i.zero, i.size, i.bytes)) = some (some (.agg #[.int .i64 0, .int .i64 0]), 2, 16) := by kernel_rfl
theorem flatF_snoc (l : List Tm) (x : Tm) : flatF (l ++ [x]) = flatF l ++ [.int .i64 x.a, .int .i64 x.i] := by simp [flatF]

set_option maxRecDepth 100000 in
theorem adv_bad {w : World} {pb : Nat} {n : Int} (hn : n < 0 ∨ 16777216 < n) :
    Calls Try.prog 12 #[.pointer (some ⟨pb, 0, none⟩), .int .i64 n] w fun e w' => e = .returned (.tuple #[.slice none 0 0, .int .i64 1]) ∧ w' = w := by
  rcases hn with hn | hn
  · go_enter Try.func12, Try.ntmps12
    go_wp2
    go_ret2
    exact ⟨rfl, rfl⟩
  · have h0 : ¬ n < 0 := by omega
    go_enter Try.func12, Try.ntmps12
    go_wp2
    go_ret2
    exact ⟨rfl, rfl⟩

set_option maxRecDepth 100000 in
theorem adv_ok {w : World} {pb bm k : Nat} {S : Wh} {n : Int} (h : Whl w pb bm S) (hk : Ok k S) (hk2 : k ≤ 1000000) (n0 : 0 ≤ n) (n1 : n ≤ 16777216) :
    Calls Try.prog 12 #[.pointer (some ⟨pb, 0, none⟩), .int .i64 n] w fun e w' => ∃ v, e = .returned (.tuple #[v, .int .i64 0]) ∧ w'.ownsRow w.heap.size 36 2 v (dueL S n).length (flatF (dueL S n)) ∧ Whl w' pb bm (advS S n) ∧ Kp pb bm w w' := by
  have c0 := h.c0
  have f0 := h.f0
  have hnow := hk.now0
  have hnowk := hk.nowk
  have d1 : wrap64 (S.now + n) = S.now + n := by unfold wrap64; omega
  have h1 : Hid (Whl (w.setCell ⟨pb, 0, none⟩ (.int .i64 (S.now + n))) pb bm ⟨S.now + n, S.turns, S.L⟩) := Whl_set h _
  have hdue := due_any h1.out hk.len hk.tne
  have hlen : Hid ((srt (S.L.filter (dueB (S.now + n)))).length ≤ 200) := by
    show _ ≤ _
    rw [(srt_perm _).length_eq]
    exact Nat.le_trans (List.length_filter_le _ _) hk.len
  have hids : Hid (S.L.Pairwise (fun x y => x.i ≠ y.i)) := hk.ids
  have hperm : Hid ((srt (S.L.filter (dueB (S.now + n)))).Perm (S.L.filter (dueB (S.now + n)))) := srt_perm _
  have hk0 : Hid (Kp pb bm w (w.setCell ⟨pb, 0, none⟩ (.int .i64 (S.now + n)))) := Kp.setCell w 0 _
  have hlt : Hid (pb < w.heap.size ∧ bm < w.heap.size ∧ pb ≠ bm) := ⟨h.lt, h.ltm, h.ne⟩
  have hsz : Hid ((w.setCell ⟨pb, 0, none⟩ (.int .i64 (S.now + n))).heap.size = w.heap.size) := by show _ = _; simp [World.setCell]
  have hwf : Hid (∀ x ∈ S.L, (Lit.int .i64 x.i).wf = true) := Whl_wf h
  unfold dueL advS
  clear h hk
  generalize hF : srt (S.L.filter (dueB (S.now + n))) = F at *
  have hF' : Hid (srt (S.L.filter (dueB (S.now + n))) = F) := hF
  clear hF
  have hdue' := hdue.mono (R' := fun e w' => ∃ (p : Option Addr) (cap : Nat), e = .returned (.slice p F.length cap) ∧ w'.ownsRow (w.setCell ⟨pb, 0, none⟩ (.int .i64 (S.now + n))).heap.size 55 3 (.slice p F.length cap) F.length (flatT F) ∧ Below (w.setCell ⟨pb, 0, none⟩ (.int .i64 (S.now + n))).heap.size (w.setCell ⟨pb, 0, none⟩ (.int .i64 (S.now + n))) w') (by
    rintro e w' ⟨v, rfl, hrow, hbl⟩
    rcases hrow.2 with ⟨rfl, h0⟩ | ⟨g, cap, cur, rfl, r⟩
    · exact ⟨none, 0, by rw [h0], by rw [h0] at hrow ⊢; exact hrow, hbl⟩
    · exact ⟨_, cap, rfl, hrow, hbl⟩)
  clear hdue
  go_enter Try.func12, Try.ntmps12
  go_wp2_with (first
    | (go_at_call 22; refine hdue'.mono ?_; rintro e w2 ⟨p, cap, rfl, hrow, hbl⟩)
    | (at_make; obtain ⟨i0, hi, hz0, hz1, hz2⟩ := info_parts info_fire; refine wpList_make_own _ rfl _ _ 32 rfl w2.heap.size 36 i0 (.agg #[.int .i64 0, .int .i64 0]) 2 Try.underlying32 hi hz0 hz1 _ _ _ F.length rfl rfl rfl (by rw [hz2]; have := hlen.out; omega) (by have := hlen.out; unfold maxLen; omega) (Nat.le_refl _) ?_; intro w3 hown3 hgrow3; clear hi hz0 hz1 hz2)
    | go_in)
  obtain ⟨hpl, hbml, hne⟩ := hlt.out
  have hs := hsz.out
  rw [hs] at hrow hbl
  have hW2 : Whl w2 pb bm ⟨S.now + n, S.turns, S.L⟩ := h1.out.below hbl hpl hbml
  have hW3 : Whl w3 pb bm ⟨S.now + n, S.turns, S.L⟩ := hW2.kept (hgrow3.block pb hW2.lt (by simp)) (hgrow3.block bm hW2.ltm (by simp))
  have hK3 : Kp pb bm w w3 := (hk0.out.trans (Kp.of_below (by rw [hs]; exact hbl))).trans (Kp.of_none hgrow3)
  have hrow3 := hrow.kept hgrow3 (by cases p <;> simp [Value.ownBlock])
  have hp2 : Hid (∀ a : Addr, p = some a → w.heap.size ≤ a.block ∧ a.block < w2.heap.size) := fun a ha => hrow.lt a.block (by rw [ha]; rfl)
  have hw2 : w.heap.size ≤ w2.heap.size := by have := hbl.size; rw [hs] at this; exact this
  have hw3 := hgrow3.size
  have hKs : Hid (Kp pb bm w w3) := hK3
  clear hrow hbl hgrow3 hW2 hK3 h1 hs hsz hdue' hk0
  go_loopw [7, 31] (fun fv iv wr => ∃ j : Nat, iv = .int .i64 j ∧ j ≤ F.length ∧ wr.ownsRow w2.heap.size 36 2 fv j (flatF (F.take j)) ∧ Whl wr pb bm ⟨S.now + n, S.turns, dropAll S.L (F.take j)⟩ ∧ wr.ownsRow w.heap.size 55 3 (.slice p F.length cap) F.length (flatT F) ∧ Kp pb bm w wr ∧ w2.heap.size ≤ wr.heap.size)
    (fun _ iv _ => F.length - (intOf iv).toNat)
  case atStart => exact ⟨0, rfl, Nat.zero_le _, by simpa [flatF] using hown3, by simpa [dropAll_nil] using hW3, hrow3, hKs.out, hw3⟩
  case round =>
    clear hown3 hW3 hrow3 hKs hw3
    obtain ⟨j, rfl, hjl, hfr, hW, hrow, hK, hsz⟩ := hrel
    by_cases hj : j < F.length
    · rcases hrow.2 with ⟨_, h0⟩ | ⟨g, cap', cur, hv, hrest⟩
      · omega
      · obtain ⟨rfl, rfl⟩ : p = some ⟨g, 0, none⟩ ∧ cap = cap' := by simpa using hv
        clear hrest hv
        obtain ⟨e0, e1, e2⟩ := flatT_get hj
        have z0 : wr.cell? ⟨g, j * 3, none⟩ = some (.int .i64 F[j]!.a) := (hrow.cellAt (j * 3) (by omega)).trans e0
        have z1 : wr.cell? ⟨g, j * 3 + 1, none⟩ = some (.int .i64 F[j]!.i) := (hrow.cellAt (j * 3 + 1) (by omega)).trans e1
        have z2 : wr.cell? ⟨g, j * 3 + 2, none⟩ = some (.int .i64 F[j]!.t) := (hrow.cellAt (j * 3 + 2) (by omega)).trans e2
        clear e0 e1 e2
        generalize hx : F[j]! = x at *
        have hx' : Hid (F[j]! = x) := hx
        have hji : (j : Int) < (F.length : Int) := by omega
        clear hx
        go_wp2
        have hxi : Hid ((Lit.int .i64 x.i).wf = true) := by
          refine hwf.out x ?_
          have hm : F[j]! ∈ F := by rw [getElem!_pos F j hj]; exact List.getElem_mem _
          rw [hx'.out] at hm
          exact (List.mem_filter.1 (hperm.out.mem_iff.1 hm)).1
        have hWq := Whl_alloc hW (Obj.cells #[.int .i64 x.a, .int .i64 x.i, .int .i64 x.t] 55)
        have hKq : Kp pb bm w (wr.alloc (Obj.cells #[.int .i64 x.a, .int .i64 x.i, .int .i64 x.t] 55)) := hK.trans (Kp.alloc wr _)
        have hfq := hfr.alloc (Obj.cells #[.int .i64 x.a, .int .i64 x.i, .int .i64 x.t] 55)
        have hrq := hrow.alloc (Obj.cells #[.int .i64 x.a, .int .i64 x.i, .int .i64 x.t] 55)
        have hsq : wr.heap.size < (wr.alloc (Obj.cells #[.int .i64 x.a, .int .i64 x.i, .int .i64 x.t] 55)).heap.size := by simp
        have hn := heap_alloc_new wr (Obj.cells #[.int .i64 x.a, .int .i64 x.i, .int .i64 x.t] 55)
        clear hW hK hfr hrow z0 z1 z2
        generalize wr.alloc (Obj.cells #[.int .i64 x.a, .int .i64 x.i, .int .i64 x.t] 55) = wq at *
        have hbx : Hid (w2.heap.size ≤ wr.heap.size) := hsz
        generalize wr.heap.size = hb at *
        have n0 : wq.cell? ⟨hb, 0, none⟩ = some (.int .i64 x.a) := (cell_of_row _ _ 0 _ _ _ hn).trans rfl
        have n1 : wq.cell? ⟨hb, 1, none⟩ = some (.int .i64 x.i) := (cell_of_row _ _ 1 _ _ _ hn).trans rfl
        have c2q := hWq.c2
        obtain ⟨D, hown, hr⟩ := hWq.own
        clear hn hsz
        go_still_tail 7, (by kernel_rfl)
        refine wpList_delete_own _ rfl _ _ 51 3 rfl 55 lawK Try.underlying51 tmElem bm _ D rfl hown.drew _ _ rfl (keyOf_int_mk Try.underlying3 hxi.out) ?_
        intro w5 hown5 hturn5
        have hW5 : Whl w5 pb bm (canS _ x.i) := Whl_del (Whl_drew hWq) hr hown5 hturn5
        have hg5 : wq.drew.grownBy w5 (some bm) := hturn5.grown
        have hf5 := hfq.drew.kept hg5 (by
          cases hv : u7.ownBlock with
          | none => exact Or.inl rfl
          | some q => right; have := (hfq.lt q hv).1; intro e; cases e; omega)
        have hpg := hp2.out _ rfl
        have hr5 := hrq.drew.kept hg5 (Or.inr (by intro e; simp [Value.ownBlock] at e; simp only [] at hpg; omega))
        have hK5 : Kp pb bm w w5 := (hKq.trans (Kp.drew wq)).trans (Kp.of_grown hg5)
        have hbm5 : some hb ≠ some bm := by intro e; cases e; have := hbx.out; omega
        have m0 : w5.cell? ⟨hb, 0, none⟩ = some (.int .i64 x.a) := hg5.cell n0 hbm5
        have m1 : w5.cell? ⟨hb, 1, none⟩ = some (.int .i64 x.i) := hg5.cell n1 hbm5
        have hs5 : w2.heap.size ≤ w5.heap.size := by have h5 : wq.heap.size ≤ w5.heap.size := hg5.size; have := hbx.out; omega
        clear hfq hrq hKq hWq hown hr hown5 hturn5 n0 n1 c2q hg5 hbm5
        have hj2 : j ≤ 200 := by have := hlen.out; omega
        go_wp2_with (at_builtin; obtain ⟨i0, hi, hz0, hz1, hz2⟩ := info_parts info_fire; refine wpList_append_own _ rfl _ _ 32 rfl w2.heap.size 36 i0 (.agg #[.int .i64 0, .int .i64 0]) 2 16 Try.underlying32 hi hz0 hz1 hz2 rfl (by decide) _ _ _ rfl (hf5.alloc _) ⟨w5.heap.size, 0, none⟩ 1 1 [.int .i64 x.a, .int .i64 x.i] rfl rfl (cells_new _ _ _) (fun v hv => by simp at hv; rcases hv with rfl | rfl <;> rfl) (by unfold maxLen; omega) (by omega) (by simp; omega) ?_; intro v' w6 hown6 hgrow6 hnil6; clear hi hz0 hz1 hz2 hnil6)
        go_wp2
        have hg6 : (w5.alloc _).grownBy w6 u7.ownBlock := hgrow6
        have hne6 : ∀ q, q < w2.heap.size → some q ≠ u7.ownBlock := fun q hq e => by have := (hf5.lt q e.symm).1; omega
        have ht : F.take (j + 1) = F.take j ++ [x] := by rw [take_snoc hj, hx'.out]
        have hWa := Whl_alloc hW5 (.cells #[.int .i64 x.a, .int .i64 x.i] 36)
        have hW6 : Whl w6 pb bm (canS _ x.i) := hWa.kept (hg6.block pb hWa.lt (hne6 pb (by omega))) (hg6.block bm hWa.ltm (hne6 bm (by omega)))
        refine ⟨⟨j + 1, by simp, hj, ?_, ?_, ?_, ?_, ?_⟩, ?_⟩
        · rw [ht, flatF_snoc]; exact hown6
        · rw [ht, ← dropAll_snoc]; exact hW6
        · refine (hr5.alloc _).kept hg6 (Or.inr (fun e => ?_))
          simp only [] at hpg
          exact hne6 g hpg.2 e
        · exact Kp_grown (hK5.trans (Kp.alloc w5 _)) hg6 (fun q hq => by have := (hf5.lt q hq).1; omega)
        · have := hg6.size
          simp at this
          omega
        · simp [intOf]; omega
    · have hjF : Hid (j = F.length) := by show _ = _; omega
      have hji : ¬ (j : Int) < (F.length : Int) := by omega
      go_wp2
      go_ret2
      have hjF' := hjF.out
      subst hjF'
      rw [List.take_length] at hfr hW
      rw [dropAll_due hperm.out hids.out] at hW
      exact ⟨u7, rfl, ownsRow_base hfr hw2, hW, hK⟩

/-- Advance, with what it tells as a slice whose length is written out. -/
theorem adv_ok2 {w : World} {pb bm k : Nat} {S : Wh} {n : Int} (h : Whl w pb bm S) (hk : Ok k S) (hk2 : k ≤ 1000000) (n0 : 0 ≤ n) (n1 : n ≤ 16777216) :
    Calls Try.prog 12 #[.pointer (some ⟨pb, 0, none⟩), .int .i64 n] w fun e w' => ∃ (p : Option Addr) (cap : Nat), e = .returned (.tuple #[.slice p (dueL S n).length cap, .int .i64 0]) ∧ w'.ownsRow w.heap.size 36 2 (.slice p (dueL S n).length cap) (dueL S n).length (flatF (dueL S n)) ∧ Whl w' pb bm (advS S n) ∧ Kp pb bm w w' :=
  (adv_ok h hk hk2 n0 n1).mono fun e w' ⟨v, he, hrow, hr⟩ => by
    rcases hrow.2 with ⟨rfl, h0⟩ | ⟨g, cap, cur, rfl, r⟩
    · exact ⟨none, 0, by rw [h0]; exact he, by rw [h0] at hrow ⊢; exact hrow, hr⟩
    · exact ⟨_, cap, he, hrow, hr⟩
end Go.Proofs.Ytejfogajlddaeaa
