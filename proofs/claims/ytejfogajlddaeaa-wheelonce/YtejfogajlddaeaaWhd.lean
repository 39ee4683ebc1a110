/- The timers that are due, walked: the wheel's own helper that collects them out of the map and sorts them. -/
import Derived.Test.YtejfogajlddaeaaWhn
namespace Go.Proofs.Ytejfogajlddaeaa
open Go.RowKit Go.Maps Go.Shelf Go.Lib Go.Sort Whm
set_option linter.unusedSectionVars false
variable [Inhabited Tm]

theorem flatT_at {ss : List Tm} {j : Nat} (hj : j < ss.length * 3) : (flatT ss)[j]? = some (encT ss[j / 3]!)[j % 3]! := by
  obtain ⟨h0, h1, h2⟩ := flatT_get (l := ss) (j := j / 3) (by omega)
  rcases (show j % 3 = 0 ∨ j % 3 = 1 ∨ j % 3 = 2 by omega) with e | e | e
  · rw [e, show j = j / 3 * 3 by omega, h0]; simp [encT]
  · rw [e, show j = j / 3 * 3 + 1 by omega, h1, show (j / 3 * 3 + 1) / 3 = j / 3 by omega]; simp [encT]
  · rw [e, show j = j / 3 * 3 + 2 by omega, h2, show (j / 3 * 3 + 2) / 3 = j / 3 by omega]; simp [encT]

theorem holdsT_of_block {w : World} {g : Nat} {cur : Array Value} {e : TypeId} {ss : List Tm} (hb : w.heap[g]? = some (.cells cur e (0, 0))) (ht : cur.toList.take (ss.length * 3) = flatT ss) : HoldsK encT 3 w g 0 ss.toArray := by
  intro j hj
  have hj' : j < ss.length * 3 := by simpa using hj
  refine ⟨?_, by simp [World.frozen?, hb]⟩
  rw [Nat.zero_add, cell_of_row w g j cur e (0, 0) hb]
  have h1 : (cur.toList.take (ss.length * 3))[j]? = (flatT ss)[j]? := by rw [ht]
  rw [List.getElem?_take_of_lt hj', flatT_at hj'] at h1
  rw [get_flatK _ _ _ _ (by simpa using hj'), ← Array.getElem?_toList, h1]
  simp

theorem heap_sortedT {w : World} {g n : Nat} {os : Array Obj} {cur : Array Value} {e : TypeId} {fr : Nat × Nat} (d : Array Tm) (hb : w.heap[g]? = some (.cells cur e fr)) :
    (sortWorldK encT 3 w g 0 n d os).heap[g]? = some (.cells (putCells id 0 (flatK encT 3 d) cur) e fr) := by
  have hg : g < w.heap.size := (Array.getElem?_eq_some_iff.1 hb).1
  unfold sortWorldK
  rw [heap_grow_old _ _ (by simpa [putRowK, putRow, mapBlock, Sort.ahead] using hg)]
  simp [putRowK, putRow, mapBlock, Sort.ahead, Array.getElem?_modify, hb, onCells]

theorem grownBy_sortedT {w : World} {g n : Nat} {os : Array Obj} (d : Array Tm) : w.grownBy (sortWorldK encT 3 w g 0 n d os) (some g) := by
  unfold sortWorldK
  refine ⟨rfl, rfl, rfl, by simp [putRowK, putRow, mapBlock, Sort.ahead], fun k hk hne => ?_⟩
  rw [heap_grow_old _ _ (by simpa [putRowK, putRow, mapBlock, Sort.ahead] using hk)]
  have : g ≠ k := fun e => hne (by rw [e])
  simp [putRowK, putRow, mapBlock, Sort.ahead, Array.getElem?_modify, this]

theorem ownsRow_sortedT {w : World} {base g cap n m : Nat} {e : TypeId} {os : Array Obj} {cur : Array Value} {d : Array Tm} (hl : d.size = m) (hbase : base ≤ g) (hb : w.heap[g]? = some (.cells cur e (0, 0))) (h1 : m ≤ cap) (h2 : cap ≤ maxLen) (h3 : cur.size = cap * 3) :
    (sortWorldK encT 3 w g 0 n d os).ownsRow base e 3 (.slice (some ⟨g, 0, none⟩) m cap) m (flatT d.toList) := by
  subst hl
  refine ⟨by rw [flatT_len]; simp, Or.inr ⟨g, cap, _, rfl, hbase, heap_sortedT d hb, h1, h2, by simp [putCells, h3], ?_⟩⟩
  apply List.ext_getElem?
  intro j
  rw [List.getElem?_take]
  by_cases hj : j < d.size * 3
  · rw [if_pos hj, flatT_at (by simpa using hj)]
    have hjc : j < cur.size := by omega
    have hf := get_flatK encT 3 d j hj
    rw [getElem!_pos _ j (by simpa using hj)] at hf
    have e3 : d[j / 3]! = d[j / 3]?.getD default := by rw [Array.getElem!_eq_getD, Array.getD_eq_getD_getElem?]
    simp [putCells, hj, hjc]
    rw [e3] at hf
    simpa using hf
  · rw [if_neg hj, List.getElem?_eq_none]
    rw [flatT_len]
    simp
    omega

theorem permIn_list {d d' : Array Tm} (hP : PermIn 0 d.size d d') : d'.toList.Perm d.toList := by
  obtain ⟨hsz, _, hperm⟩ := hP
  have e1 : d'.extract 0 d.size = d' := by rw [← hsz]; exact Array.extract_size
  rwa [e1, Array.extract_size] at hperm
theorem sortedIn_list {d : Array Tm} {n : Nat} (hn : d.size = n) (hS : SortedIn ltT 0 n d) : d.toList.Pairwise (fun x y => ltT y x = false) := by
  rw [List.pairwise_iff_getElem]
  intro i j hi hj hij
  have hi' : i < d.size := by simpa using hi
  have hj' : j < d.size := by simpa using hj
  have := hS i j (Nat.zero_le _) hij (by omega)
  rw [getElem!_pos d j hj', getElem!_pos d i hi'] at this
  simpa using this

theorem ranges_drewN {P : Program} {w : World} {k : TypeId} {R : Value → Option (DataW Unit × List MemPlace)} {b r n : Nat} {D : DataW Unit} {left : Lit → Bool} {cnt : Nat} (h : w.ranges P k R b r n D left cnt) (q : Nat) : (w.drewN q).ranges P k R b r n D left cnt :=
  h.kept (w' := w.drewN q) (row := none) ⟨rfl, rfl, rfl, Nat.le_refl _, fun _ _ _ => rfl⟩ (by simp) (by simp)

theorem cells_new (w : World) (cs : List Value) (t : TypeId) : ∀ j u, cs[j]? = some u → (w.alloc (.cells cs.toArray t)).cell? ((⟨w.heap.size, 0, none⟩ : Addr).add j) = some u := by
  intro j u hu
  rw [Addr.add_lit, Nat.zero_add, cell_of_row _ _ _ _ _ _ (heap_alloc_new w (.cells cs.toArray t))]
  simpa using hu

theorem Coll_len {L M : List Tm} {left : Lit → Bool} (h : Coll L left M) : M.length ≤ L.length := (nodup_ids h.ids).length_le_of_subset h.sub

theorem info_tm : (Try.prog.info? 55).map (fun i => (i.zero, i.size, i.bytes)) = some (some (.agg #[.int .i64 0, .int .i64 0, .int .i64 0]), 3, 24) := by kernel_rfl

theorem flatT_snoc (l : List Tm) (x : Tm) : flatT (l ++ [x]) = flatT l ++ [.int .i64 x.a, .int .i64 x.i, .int .i64 x.t] := by simp [flatT, encT]

set_option maxRecDepth 100000 in
theorem due_any {w : World} {pb bm : Nat} {S : Wh} (h : Whl w pb bm S) (hlen : S.L.length ≤ 200) (htn : S.L.Pairwise (fun x y => x.t ≠ y.t)) :
    Calls Try.prog 22 #[.pointer (some ⟨pb, 0, none⟩)] w fun e w' => ∃ v, e = .returned v ∧ w'.ownsRow w.heap.size 55 3 v (srt (S.L.filter (dueB S.now))).length (flatT (srt (S.L.filter (dueB S.now)))) ∧ Below w.heap.size w w' := by
  obtain ⟨D, hown, hr⟩ := h.own
  have c0 := h.c0
  have c2 := h.c2
  have hplt := h.lt
  generalize S.now = nw at *
  generalize S.L = L at *
  clear h
  go_enter Try.func22, Try.ntmps22
  go_wp2_with (first
    | (at_range; refine wpList_range_own _ rfl _ 51 rfl 3 55 lawK Try.underlying51 tmElem bm _ D rfl hown ?_; intro w0 hrg0 hg0 hs0)
    | go_in)
  go_frame
  go_loopw [3] (fun v wr => ∃ (left : Lit → Bool) (cnt : Nat) (M : List Tm), wr.ranges Try.prog 3 tmElem bm w.heap.size L.length D left cnt ∧ Below w.heap.size w wr ∧ Coll L left M ∧ wr.ownsRow (w.heap.size + 1) 55 3 v (M.filter (dueB nw)).length (flatT (M.filter (dueB nw))) ∧ w.heap.size + 1 ≤ wr.heap.size)
    (fun _ wr => wr.rangeLeft bm w.heap.size)
  case atStart => exact ⟨_, _, [], hrg0, (Below.refl _ _).grown hg0 (Nat.le_refl _) (fun j hj => by cases hj), Coll.start hr, World.ownsRow_nil _ _ _ _, by omega⟩
  case round =>
    obtain ⟨left, cnt, M, hrg, hbl, hC, hrow, hws⟩ := hrel
    go_wp2_with (first
      | (at_next; refine wpList_next_tm _ rfl _ rfl 3 lawK Try.underlying3 bm w.heap.size L.length D _ _ rfl hrg ?_ ?_)
      | go_in)
    · intro _ hl0
      have hp : (M.filter (dueB nw)).Perm (L.filter (dueB nw)) := (hC.perm hr.ids hl0).filter _
      have hbl' := hbl
      clear hbl
      rcases hrow.2 with ⟨rfl, hn0⟩ | ⟨g, cap, cur, rfl, hbase, hb, h1, h2, h3, h4⟩
      · have hF : M.filter (dueB nw) = [] := List.eq_nil_of_length_eq_zero hn0
        have hL : Hid (L.filter (dueB nw) = []) := by
          show _ = _
          rw [hF] at hp
          simpa using hp.symm
        clear hrow hn0 hF hp
        go_wp2_with (go_at_call 26; refine (sort_none _ _ _).mono ?_; rintro e w' ⟨rfl, rfl⟩)
        go_ret
        refine ⟨_, rfl, ?_, hbl'⟩
        rw [hL.out, show srt [] = [] by simp [srt]]
        exact World.ownsRow_nil _ _ _ _
      · have hc := sort_any g cap (M.filter (dueB nw)).toArray wr (holdsT_of_block hb h4) (Array.getElem?_eq_some_iff.1 hb).1 (by have := Nat.le_trans (List.length_filter_le (dueB nw) M) (Coll_len hC); simp; omega)
        have hbase' : Hid (w.heap.size ≤ g) := by show _ ≤ _; omega
        have hp' : Hid ((M.filter (dueB nw)).Perm (L.filter (dueB nw))) := hp
        have hb' : Hid (wr.heap[g]? = some (.cells cur 55 (0, 0))) := hb
        have h123 : Hid ((M.filter (dueB nw)).length ≤ cap ∧ cap ≤ maxLen ∧ cur.size = cap * 3) := ⟨h1, h2, h3⟩
        clear hrow hb h1 h2 h3 h4 hbase hp
        simp only [List.size_toArray] at hc
        go_wp2_with (go_at_call 26; refine hc.mono ?_; rintro e w' ⟨rfl, d', n, os, hP, hS, rfl⟩)
        go_ret
        have hsz : d'.size = (M.filter (dueB nw)).length := by simpa using hP.1
        have hpl : d'.toList.Perm (M.filter (dueB nw)) := by simpa using permIn_list (d := (M.filter (dueB nw)).toArray) (by simpa using hP)
        have he : d'.toList = srt (L.filter (dueB nw)) := srt_unique (hpl.trans hp'.out) (sortedIn_list hsz hS) (htn.filter _)
        obtain ⟨h1, h2, h3⟩ := h123.out
        have hro := ownsRow_sortedT (os := os) (n := n) (d := d') hsz hbase'.out hb'.out h1 h2 h3
        have hl : (srt (L.filter (dueB nw))).length = (M.filter (dueB nw)).length := by rw [← he]; simpa using hsz
        refine ⟨_, rfl, ?_, hbl'.grown (grownBy_sortedT d') hbl'.size (fun j hj => by cases hj; exact hbase'.out)⟩
        rw [hl, ← he]
        exact hro
    · intro x d0 d1 d2 w1 cnt1 hlx hat hrg1 hlt hg1 hen
      have hbl1 : Below w.heap.size w w1 := hbl.grown hg1 hbl.size (fun j hj => by cases hj; exact Nat.le_refl _)
      have hC1 := hC.step hr hlx hat
      have hws1 : w.heap.size + 1 ≤ w1.heap.size := Nat.le_trans hws hg1.size
      have hrow1 := hrow.kept hg1 (by
        cases hv : u3.ownBlock with
        | none => exact Or.inl rfl
        | some q => right; have := (hrow.lt q hv).1; intro e; cases e; omega)
      have hcp : w1.cell? ⟨pb, 0, none⟩ = some (.int .i64 nw) := (hbl1.cell (p := ⟨pb, 0, none⟩) hplt).trans c0
      clear hrow hg1
      go_wp2
      have hb2 : Below w.heap.size w (w1.alloc (.cells #[.int .i64 d0, .int .i64 d1, .int .i64 d2] 55)) := hbl1.alloc hbl1.size _
      have hrg2 := hrg1.alloc (.cells #[.int .i64 d0, .int .i64 d1, .int .i64 d2] 55)
      have hrow2 := hrow1.alloc (.cells #[.int .i64 d0, .int .i64 d1, .int .i64 d2] 55)
      have hws2 : w.heap.size + 1 ≤ (w1.alloc (.cells #[.int .i64 d0, .int .i64 d1, .int .i64 d2] 55)).heap.size := by simp; omega
      have q0 := cell_alloc hcp (.cells #[.int .i64 d0, .int .i64 d1, .int .i64 d2] 55)
      have hn := heap_alloc_new w1 (.cells #[.int .i64 d0, .int .i64 d1, .int .i64 d2] 55)
      have n0 := (cell_of_row _ _ 0 _ _ _ hn).trans rfl
      have n1 := (cell_of_row _ _ 1 _ _ _ hn).trans rfl
      have n2 := (cell_of_row _ _ 2 _ _ _ hn).trans rfl
      clear hn hcp hrg1 hrow1 hbl1 hws1 hen
      generalize w1.alloc (.cells #[.int .i64 d0, .int .i64 d1, .int .i64 d2] 55) = wq at *
      generalize w1.heap.size = hb at *
      by_cases hd : d0 ≤ nw
      · go_quiet (fail)
        have z0 : (wq.drewN nq).cell? ⟨hb, 0, none⟩ = some (.int .i64 d0) := n0
        have z1 : (wq.drewN nq).cell? ⟨hb, 1, none⟩ = some (.int .i64 d1) := n1
        have z2 : (wq.drewN nq).cell? ⟨hb, 2, none⟩ = some (.int .i64 d2) := n2
        have hb3 : Below w.heap.size w (wq.drewN nq) := ⟨hb2.os, hb2.tape, hb2.output, hb2.size, hb2.block⟩
        have hrg3 : (wq.drewN nq).ranges Try.prog 3 tmElem bm w.heap.size L.length D _ cnt1 := ranges_drewN hrg2 nq
        have hrow3 : (wq.drewN nq).ownsRow (w.heap.size + 1) 55 3 u3 (M.filter (dueB nw)).length (flatT (M.filter (dueB nw))) := hrow2
        have hws3 : w.heap.size + 1 ≤ (wq.drewN nq).heap.size := hws2
        clear q0 n0 n1 n2 hrg2 hrow2 hws2 hb2
        generalize wq.drewN nq = wz at *
        have hml : (M.filter (dueB nw)).length ≤ 200 := Nat.le_trans (List.length_filter_le _ _) (Nat.le_trans (Coll_len hC) hlen)
        go_wp2_with (at_builtin; obtain ⟨i0, hi, hz0, hz1, hz2⟩ := info_parts info_tm; refine wpList_append_own _ rfl _ _ 57 rfl (w.heap.size + 1) 55 i0 (.agg #[.int .i64 0, .int .i64 0, .int .i64 0]) 3 24 Try.underlying57 hi hz0 hz1 hz2 rfl (by decide) _ _ _ rfl (hrow3.alloc _) ⟨wz.heap.size, 0, none⟩ 1 1 [.int .i64 d0, .int .i64 d1, .int .i64 d2] rfl rfl (cells_new _ _ _) (oneT ⟨d0, d1, d2⟩) (by unfold maxLen; omega) (by omega) (by simp; omega) ?_; intro v' w4 hown' hgrow4 hnil4; clear hi hz0 hz1 hz2)
        go_wp2
        have hg4 : (wz.alloc _).grownBy w4 u3.ownBlock := hgrow4
        have hbm := hown.lt
        have hne : ∀ q, q ≤ w.heap.size → some q ≠ u3.ownBlock := fun q hq e => by have := (hrow3.lt q e.symm).1; omega
        have hrg4 := (hrg3.alloc _).kept hg4 (hne bm (by omega)) (hne _ (Nat.le_refl _))
        have hb4 : Below w.heap.size w w4 := (hb3.alloc hb3.size _).grown hg4 (by simp; omega) (fun q hq => by have := (hrow3.lt q hq).1; omega)
        have hf : (M ++ [(⟨d0, d1, d2⟩ : Tm)]).filter (dueB nw) = M.filter (dueB nw) ++ [⟨d0, d1, d2⟩] := by
          rw [List.filter_append]
          simp [dueB, hd]
        refine ⟨⟨_, cnt1, _, hrg4, hb4, hC1, ?_, ?_⟩, ?_⟩
        · rw [hf, flatT_snoc]
          have e : (M.filter (dueB nw) ++ [(⟨d0, d1, d2⟩ : Tm)]).length = (M.filter (dueB nw)).length + 1 := by simp
          rw [e]
          exact hown'
        · have := hg4.size
          simp at this
          omega
        · rw [hrg4.left_eq, hrg.left_eq]; exact hlt
      · go_quiet (fail)
        go_wp2
        have hf : (M ++ [(⟨d0, d1, d2⟩ : Tm)]).filter (dueB nw) = M.filter (dueB nw) := by
          rw [List.filter_append]
          simp [dueB, hd]
        refine ⟨⟨_, cnt1, _, ranges_drewN hrg2 nq, ⟨hb2.os, hb2.tape, hb2.output, hb2.size, hb2.block⟩, hC1, ?_, hws2⟩, ?_⟩
        · rw [hf]; exact hrow2
        · have e1 := hrg2.left_eq
          rw [hrg.left_eq]
          show wq.rangeLeft bm w.heap.size < cnt
          rw [e1]; exact hlt
end Go.Proofs.Ytejfogajlddaeaa
