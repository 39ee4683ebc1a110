/- The queue's calls that take one out or raise one, walked: remove, Take, Drop, Raise. -/
import Derived.Test.YthkhlgannimebaaQuq
namespace Go.Proofs.Ythkhlgannimebaa
open Go.RowKit Go.Maps Go.Sort Qum
set_option linter.unusedSectionVars false

theorem drop_perm {H H' : List Nd} {y : Nd} {L : List Th} (hp : (y :: H').Perm H) (hL : (H.map (·.x)).Perm L) (ids : L.Pairwise (fun x y => x.i ≠ y.i)) : (H'.map (·.x)).Perm (dropId L y.x.i) := by
  have h1 : (y.x :: H'.map (·.x)).Perm L := (hp.map (fun z : Nd => z.x)).trans hL
  have h2 := dropId_perm h1 y.x.i
  have h3 := (h1.pairwise_iff (R := fun x y : Th => x.i ≠ y.i) (fun hne e => hne e.symm)).2 ids
  rw [List.pairwise_cons] at h3
  rw [dropId_cons h3.1] at h2
  exact h2

theorem Fq.newer {B : Nat} {bm : Option Nat} {w w' : World} (h : Fq B bm w w') (hB : B ≤ w.heap.size) (a : Addr) (u : Value) (ha : w.heap.size ≤ a.block) : Fq B bm w (w'.setCell a u) :=
  ⟨h.os, h.tape, h.output, by simpa using h.size, fun k hk => (Below.heap_setCell _ _ _ _ (by omega)).trans (h.low k hk), fun k hk h1 h2 => (Below.heap_setCell _ _ _ _ (by omega)).trans (h.oth k hk h1 h2)⟩
theorem Que.box {B : Nat} {w : World} {qb bm : Nat} {S : Qu} (h : Que B w qb bm S) (a : Addr) (u : Value) (ht : tagd w a.block = false) (hb : a.block ≠ bm) : Que B (w.setCell a u) qb bm S :=
  h.own (fun k _ hk => Below.heap_setCell _ _ _ _ (fun e => by rw [e, ht] at hk; cases hk)) (Below.heap_setCell _ _ _ _ (fun e => hb e.symm))
theorem grown_drew {w w2 : World} {r : Option Nat} (h : w.drew.grownBy w2 r) : w.grownBy w2 r := ⟨h.os, h.tape, h.output, h.size, h.block⟩

set_option maxRecDepth 100000 in
theorem rem_any {B : Nat} {w : World} {qb bm : Nat} {S : Qu} {v : Value} {H : List Nd} {D : DataW Unit} {i k : Nat} (hP : Pl B w qb S.turns bm v H) (hHp : Hp H H.length) (hperm : (H.map (·.x)).Perm S.L) (hown : w.ownsMap Try.prog 3 ptElem bm H.length D) (hr : Rep D H) (hBm : B ≤ bm) (hk : Ok k S) (hi : i < H.length) (wi : (Lit.int .i64 (nd H i).x.i).wf = true) :
    Calls Try.prog 28 #[.pointer (some ⟨qb, 0, none⟩), .int .i64 i] w fun e w' => e = .returned (.agg #[.int .i64 (nd H i).x.p, .int .i64 (nd H i).x.i]) ∧ Que B w' qb bm (drpS S (nd H i).x.i) ∧ Fq B (some bm) w w' := by
  have hlen := perm_len hperm
  have hl := hk.len
  obtain ⟨g, cap, rfl, _⟩ := hP.len (by omega)
  obtain ⟨wa, hwa⟩ : ∃ wa, wa = w.alloc (.cells #[.int .i64 0, .int .i64 0] 30) := ⟨_, rfl⟩
  have hPa : Pl B wa qb S.turns bm (.slice (some ⟨g, 0, none⟩) H.length cap) H := by rw [hwa]; exact hP.alloc _
  have hFa : Fq B (some bm) w wa := by rw [hwa]; exact Fq.alloc _ _ _ hP.base
  have hoa : wa.ownsMap Try.prog 3 ptElem bm H.length D := by rw [hwa]; exact hown.alloc _
  have hbx : wa.heap[w.heap.size]? = some (.cells #[.int .i64 0, .int .i64 0] 30 (0, 0)) := by rw [hwa]; exact heap_alloc_new w _
  have hrem := hrem_any (i := i) (n := H.length - 1) hPa (by omega) (by omega) (by omega) hHp
  have hta := assert_thing (some ⟨(nd H i).b, 0, none⟩)
  have hQ : Hid (∀ w1 w2 H1 v1 n, Pl B w1 qb S.turns bm v1 H1 → (nd H i :: H1).Perm H → Hp H1 H1.length → Fq B none wa w1 → w2.ownsMap Try.prog 3 ptElem bm n (D.del (ky (nd H i).x.i)) → w1.grownBy w2 (some bm) → Que B w2 qb bm (drpS S (nd H i).x.i) ∧ Fq B (some bm) w w2) := by
    intro w1 w2 H1 v1 n hP1 hp1 hh1 hF1 ho2 ht2
    have hrd := (hr.perm hp1.symm).cons_del
    have hb1 : bm < w1.heap.size := Nat.lt_of_lt_of_le hoa.lt hF1.size
    refine ⟨⟨v1, H1, _, hP1.own (fun k hk ht => ht2.block k hk (fun e => by
      cases e
      have := owns_untagd (hF1.map hoa)
      rw [this] at ht
      cases ht)), hh1, drop_perm hp1 hperm hk.ids, ?_, hrd, hBm⟩, (hFa.trans (hF1.wide _)).trans (Fq.grown ht2 hBm hP1.base (Or.inr rfl))⟩
    have := owns_size ho2
    rw [hrd.size] at this
    exact this
  have c2 : Hid (∀ w1 v1 H1, Pl B w1 qb S.turns bm v1 H1 → w1.cell? ⟨qb, 2, none⟩ = some (.map (some bm))) := fun w1 v1 H1 h => h.slot2
  have hown' : Hid (∀ w1, Fq B none wa w1 → w1.ownsMap Try.prog 3 ptElem bm H.length D) := fun w1 h => h.map hoa
  unfold hv ptV at hrem
  have hi' : (i : Int) < 1000 := by omega
  have hbox : Hid (∀ w1, Fq B none wa w1 → w1.heap[w.heap.size]? = some (.cells #[.int .i64 0, .int .i64 0] 30 (0, 0))) := fun w1 h => by
    rw [h.oth w.heap.size (Array.getElem?_eq_some_iff.1 hbx).1 (by simp) (by simp [tagd, hbx])]; exact hbx
  unfold RemR at hrem
  have hBw : B ≤ w.heap.size := hP.base
  have hne : Hid (w.heap.size ≠ bm) := by show _ ≠ _; have := hown.lt; omega
  have hyb : Hid ((nd H i).b ≠ bm) := fun e => by
    have := owns_untagd hown
    rw [← e, hP.tagt hi] at this
    cases this
  generalize nd H i = y at *
  subst hwa
  clear hP hHp hperm hown hr hk hl hlen hoa hFa hPa hbx
  go_enter Try.func28, Try.ntmps28
  go_wp2_with (first
    | (go_at_call 34; refine hrem.mono ?_; rintro e w1 ⟨rfl, v1, H1, hP1, hp1, hh1, hF1, k1, ht1⟩; clear hrem)
    | go_in)
  obtain ⟨t0, t1, t2, t3⟩ := th_cells ht1
  have q2 := hP1.slot2
  have hbx1 := hbox.out _ hF1
  have hown1 := hown'.out _ hF1
  clear hown' c2
  go_still_tail 9, (by kernel_rfl)
  refine wpList_delete_own _ rfl _ _ 55 3 rfl 60 lawK Try.underlying55 ptElem bm _ D rfl hown1.drew _ _ rfl (keyOf_int_mk Try.underlying3 wi) ?_
  intro w2 hown2 hturn2
  have hg2 : w1.grownBy w2 (some bm) := grown_drew hturn2.grown
  have hS : Hid (Que B w2 qb bm (drpS S y.x.i) ∧ Fq B (some bm) w w2) := hQ.out w1 w2 H1 v1 _ hP1 hp1 hh1 hF1 hown2 hg2
  have ht2 : w2.heap[y.b]? = some (thO y.x k1) := by
    rw [hg2.block y.b (Array.getElem?_eq_some_iff.1 ht1).1 (fun e => hyb.out (by cases e; rfl))]; exact ht1
  have hb2 : w2.heap[w.heap.size]? = some (.cells #[.int .i64 0, .int .i64 0] 30 (0, 0)) := by
    rw [hg2.block _ (Array.getElem?_eq_some_iff.1 hbx1).1 (fun e => hne.out (by cases e; rfl))]; exact hbx1
  have s0 := (th_cells ht2).1
  have s1 := (th_cells ht2).2.1
  have b0 : w2.cell? ⟨w.heap.size, 0, none⟩ = some (.int .i64 0) := (cell_of_row _ _ _ _ _ _ hb2).trans rfl
  have b1 : w2.cell? ⟨w.heap.size, 1, none⟩ = some (.int .i64 0) := (cell_of_row _ _ _ _ _ _ hb2).trans rfl
  have g0 : w2.frozen? ⟨w.heap.size, 0, none⟩ = false := by simp [World.frozen?, hb2]
  have g1 : w2.frozen? ⟨w.heap.size, 1, none⟩ = false := by simp [World.frozen?, hb2]
  have htg : Hid (tagd w2 w.heap.size = false) := by show _ = _; simp [tagd, hb2]
  have htg2 : Hid (∀ u, tagd (w2.setCell ⟨w.heap.size, 0, none⟩ u) w.heap.size = false) := fun u => by
    have := heap_setCell_same w2 w.heap.size 0 _ _ u hb2
    simp [tagd, this]
  have hBs : Hid (B ≤ w.heap.size) := hBw
  clear t0 t1 t2 t3 q2 hbx1 hown1 hown2 hturn2 hg2 ht2 hb2 hP1 hp1 hh1 ht1 hF1 hQ hbox hBw
  generalize hhs : w.heap.size = hs at *
  go_wp2
  refine bodyPost_ret (v := .agg #[.int .i64 y.x.p, .int .i64 y.x.i]) (by simp [results, Try.results28, go_sem, b0, b1]) rfl ?_
  obtain ⟨h1, h2⟩ := hS.out
  subst hhs
  exact ⟨rfl, (h1.box _ _ htg.out hne.out).box _ _ (htg2.out _) hne.out, (h2.newer hBs.out _ _ (Nat.le_refl _)).newer hBs.out _ _ (Nat.le_refl _)⟩

theorem owns_wf {w : World} {b n : Nat} {D : DataW Unit} {id : Int} (h : w.ownsMap Try.prog 3 ptElem b n D) (hh : Maps.has D (ky id) = true) : (Lit.int .i64 id).wf = true := by
  obtain ⟨es, clock, hb, F, hs, rfl⟩ := h
  rw [Maps.has_eq, List.any_eq_true] at hh
  obtain ⟨p, hp, hk⟩ := hh
  have e := same_ky.1 hk
  obtain ⟨v, hv⟩ := Maps.fit_keys F p (mem_sorted.1 hp)
  obtain ⟨x, _, hx, hw⟩ := Maps.keyOf_int_inv Try.underlying3 hv
  rw [e] at hx
  have : id = x := by simpa [ky] using hx
  rw [this]
  exact hw

/-- The first one of the row. -/
theorem first_any {H : List Nd} {L : List Th} (hp : (H.map (·.x)).Perm L) (hh : Hp H H.length) (h0 : 0 < H.length) (ht : L.Pairwise (fun x y => x.t ≠ y.t)) (ids : L.Pairwise (fun x y => x.i ≠ y.i)) : srt L = (nd H 0).x :: srt (dropId L (nd H 0).x.i) := by
  have hm := nd_mem h0
  obtain ⟨r, hr⟩ : ∃ r, (nd H 0 :: r).Perm H := by
    obtain ⟨a, b, e⟩ := List.append_of_mem hm
    refine ⟨a ++ b, ?_⟩
    generalize nd H 0 = z at *
    rw [e]
    exact List.perm_middle.symm
  have h1 : ((nd H 0).x :: r.map (·.x)).Perm L := (hr.map (fun z : Nd => z.x)).trans hp
  have h2 := drop_perm hr hp ids
  have h3 : (dropId L (nd H 0).x.i).Pairwise (fun x y => x.t ≠ y.t) := ht.filter _
  rw [srt_first h1 ?_ ht, srt_eq h2 h3]
  intro y hy
  obtain ⟨z, hz, rfl⟩ := List.mem_map.1 (hp.mem_iff.2 hy)
  obtain ⟨k, hk, rfl⟩ := nd_of_mem hz
  exact hp_root hh k hk

theorem box_facts {w : World} {b : Nat} {x y : Value} (h : w.heap[b]? = some (.cells #[x, y] 30 (0, 0))) : (tagd w b = false ∧ ∀ u, tagd (w.setCell ⟨b, 0, none⟩ u) b = false) ∧ w.cell? ⟨b, 0, none⟩ = some x ∧ w.cell? ⟨b, 1, none⟩ = some y ∧ w.frozen? ⟨b, 0, none⟩ = false ∧ w.frozen? ⟨b, 1, none⟩ = false := by
  refine ⟨⟨by simp [tagd, h], fun u => ?_⟩, (cell_of_row _ _ _ _ _ _ h).trans rfl, (cell_of_row _ _ _ _ _ _ h).trans rfl, by simp [World.frozen?, h], by simp [World.frozen?, h]⟩
  have := heap_setCell_same w b 0 _ _ u h
  simp [tagd, this]
theorem take_fin {B : Nat} {w wa w1 : World} {qb bm b : Nat} {S : Qu} {x y : Value} (h1 : Que B w1 qb bm S) (h2 : Fq B (some bm) wa w1) (ha : Fq B (some bm) w wa) (ht : tagd w1 b = false ∧ ∀ u, tagd (w1.setCell ⟨b, 0, none⟩ u) b = false) (hne : b ≠ bm) (hB : B ≤ w.heap.size) (hb : w.heap.size ≤ b := by exact Nat.le_refl _) :
    Que B ((w1.setCell ⟨b, 0, none⟩ x).setCell ⟨b, 1, none⟩ y) qb bm S ∧ Fq B (some bm) w ((w1.setCell ⟨b, 0, none⟩ x).setCell ⟨b, 1, none⟩ y) :=
  ⟨(h1.box _ _ ht.1 hne).box _ _ (ht.2 _) hne, ((ha.trans h2).newer hB _ _ hb).newer hB _ _ hb⟩

set_option maxRecDepth 100000 in
theorem take_none {B : Nat} {w : World} {qb bm : Nat} {S : Qu} (h : Que B w qb bm S) (h0 : S.L = []) :
    Calls Try.prog 20 #[.pointer (some ⟨qb, 0, none⟩)] w fun e w' => e = .returned (.tuple #[.agg #[.int .i64 0, .int .i64 0], .bool false]) ∧ Below w.heap.size w w' := by
  obtain ⟨v, H, D, hP, hHp, hperm, hown, hr, hBm⟩ := h
  have hlen := perm_len hperm
  rw [h0] at hlen
  obtain ⟨p, cap, rfl⟩ := hP.form
  have c1 := cell_alloc hP.slot (.cells #[.int .i64 0, .int .i64 0] 30)
  rw [hlen] at c1
  clear hP hown hr
  go_enter Try.func20, Try.ntmps20
  go_wp2
  exact bodyPost_ret (v := .tuple #[.agg #[.int .i64 0, .int .i64 0], .bool false]) (by simp [results, Try.results20, go_sem]) rfl ⟨rfl, (Below.refl _ _).alloc (Nat.le_refl _) _⟩

set_option maxRecDepth 100000 in
theorem take_some {B : Nat} {w : World} {qb bm k : Nat} {S : Qu} (h : Que B w qb bm S) (hk : Ok k S) (h0 : S.L ≠ []) :
    Calls Try.prog 20 #[.pointer (some ⟨qb, 0, none⟩)] w fun e w' => ∃ x : Th, e = .returned (.tuple #[.agg #[.int .i64 x.p, .int .i64 x.i], .bool true]) ∧ srt S.L = x :: srt (dropId S.L x.i) ∧ Que B w' qb bm (drpS S x.i) ∧ Fq B (some bm) w w' := by
  have hQ := h.below ((Below.refl w.heap.size w).alloc (Nat.le_refl _) (.cells #[.int .i64 0, .int .i64 0] 30))
  have hB0 := h.base
  obtain ⟨v, H, D, hP, hHp, hperm, hown, hr, hBm⟩ := hQ
  have hlen := perm_len hperm
  have hpos : 0 < H.length := by
    rw [hlen]
    cases hL : S.L with
    | nil => exact absurd hL h0
    | cons a r => simp
  obtain ⟨g, cap, rfl, _⟩ := hP.len hpos
  have hl := hk.len
  have wi := owns_wf hown (hr.yes (nd_mem hpos) rfl)
  have hrem1 := rem_any (i := 0) hP hHp hperm hown hr hBm hk hpos wi
  have hrem : Calls Try.prog 28 #[.pointer (some ⟨qb, 0, none⟩), .int .i64 0] (w.alloc (.cells #[.int .i64 0, .int .i64 0] 30)) _ := hrem1
  clear hrem1
  have c1 := hP.slot
  have hsrt : Hid _ := first_any hperm hHp hpos hk.tne hk.ids
  have hpz : Hid (0 < H.length) := hpos
  have hpi : ¬ (H.length : Int) = 0 := by omega
  generalize nd H 0 = y at *
  have hbm : Hid (w.heap.size ≠ bm) := by show _ ≠ _; have := h.ltm; omega
  have hFa : Hid (Fq B (some bm) w (w.alloc (.cells #[.int .i64 0, .int .i64 0] 30))) := Fq.alloc _ _ _ hB0
  have hB' : Hid (B ≤ w.heap.size) := hB0
  have hbx := heap_alloc_new w (.cells #[.int .i64 0, .int .i64 0] 30)
  have hbox : Hid (∀ w1, Fq B (some bm) (w.alloc (.cells #[.int .i64 0, .int .i64 0] 30)) w1 → w1.heap[w.heap.size]? = some (.cells #[.int .i64 0, .int .i64 0] 30 (0, 0))) := fun w1 hf => by
    rw [hf.oth w.heap.size (Array.getElem?_eq_some_iff.1 hbx).1 (fun e => hbm.out (by cases e; rfl)) (box_facts hbx).1.1]; exact hbx
  clear hP hHp hperm hown hr h hB0 hbx
  go_enter Try.func20, Try.ntmps20
  go_wp2_with (first
    | (go_at_call 28; refine hrem.mono ?_; rintro e w1 ⟨rfl, hQ1, hF1⟩; clear hrem; obtain ⟨htg, b0, b1, g0, g1⟩ := box_facts (hbox.out _ hF1); have hfin : Hid _ := take_fin (b := w.heap.size) (x := .int .i64 y.x.p) (y := .int .i64 y.x.i) hQ1 hF1 hFa.out htg hbm.out hB'.out; clear htg)
    | go_in)
  refine bodyPost_ret (v := .tuple #[.agg #[.int .i64 y.x.p, .int .i64 y.x.i], .bool true]) (by simp [results, Try.results20, go_sem, b0, b1]) rfl ?_
  exact ⟨y.x, rfl, hsrt.out, hfin.out.1, hfin.out.2⟩
end Go.Proofs.Ythkhlgannimebaa
