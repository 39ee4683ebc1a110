/- WheelOnce, walked. -/
import Derived.Test.YtejfogajlddaeaaOnc1
namespace Go.Proofs.Ytejfogajlddaeaa
open Go.RowKit Go.Maps Go.Shelf Go.Lib Go.Sort Whm
set_option linter.unusedSectionVars false
variable [Inhabited Tm]
variable [Inhabited Ac]

theorem due_sub {S : Wh} {n : Int} : ∀ x ∈ dueL S n, x ∈ S.L := fun _ hx => (List.mem_filter.1 ((srt_perm _).mem_iff.1 hx)).1
theorem due_ids {k : Nat} {S : Wh} (h : Ok k S) (n : Int) : (dueL S n).Pairwise (fun x y => x.i ≠ y.i) :=
  (srt_perm _).symm.pairwise (h.ids.filter _) (fun h => Ne.symm h)
theorem due_all {k : Nat} {S : Wh} (h : Ok k S) (n : Int) : dropAll S.L (dueL S n) = (advS S n).L := dropAll_due (srt_perm _) h.ids
theorem adv_none {k : Nat} {S : Wh} (h : Ok k S) : (advS S 16777216).L = [] := by
  unfold advS
  rw [List.filter_eq_nil_iff]
  intro x hx
  have := (h.ahd x hx).2
  simp [dueB]
  omega
theorem someB_nil {L : List Tm} (h : L = []) : someB L = false := by rw [h]; rfl

theorem addE_zero {S : Wh} {a i : Int} (h : addE S a i = 0) : hasId S.L i = false := by
  unfold addE at h
  split at h
  · cases h
  · split at h
    · cases h
    · split at h
      · cases h
      · rename_i hn; simpa using hn
theorem kp_cell {pb bm : Nat} {w w' : World} {a : Addr} {v : Value} (hK : Kp pb bm w w') (h : w.cell? a = some v) (h1 : a.block ≠ pb) (h2 : a.block ≠ bm) : w'.cell? a = some v :=
  (World.cell?_of_block (w := w) (hK.block a.block (World.block_lt_of_cell? w a h) h1 h2)).trans h
theorem Whl_turn {w w1 : World} {pb bm wm : Nat} {S : Wh} (h : Whl w pb bm S) (ht : w.mapTurned w1 wm) (h1 : wm ≠ pb) (h2 : wm ≠ bm) : Whl w1 pb bm S :=
  h.kept (ht.grown.block pb h.lt (fun e => h1 (by cases e; rfl))) (ht.grown.block bm h.ltm (fun e => h2 (by cases e; rfl)))
theorem below_turn {B : Nat} {w0 w w1 : World} {wm : Nat} (h : Below B w0 w) (ht : w.mapTurned w1 wm) (h1 : B ≤ wm) (h2 : B ≤ w.heap.size) : Below B w0 w1 := h.grown ht.grown h2 (fun k hk => by cases hk; exact h1)

set_option maxHeartbeats 2000000 in
set_option maxRecDepth 100000 in
theorem wheelOnce_walk (w : World) (q : Option Addr) (l : List Ac) (cap : Nat) (h : Acts w q l) :
    Calls Try.prog 4 #[.slice q l.length cap] w fun e w' => e = .returned (.bool true) ∧ Below w.heap.size w w' := by
  by_cases h200 : (150 : Int) < (l.length : Int)
  · clear h
    go_enter Try.func4, Try.ntmps4
    go_wp2_with (go_at_call 7; refine (wheels_any _).mono ?_; rintro e w1 ⟨rfl, hb1⟩)
    go_ret
    exact ⟨rfl, hb1⟩
  have hmm := @run_makeMap Try.prog
  go_enter Try.func4, Try.ntmps4
  go_wp2_with (first
    | (go_at_call 7; refine (wheels_any _).mono ?_; rintro e w1 ⟨rfl, hb1⟩)
    | (go_at_call 8; refine (new_any _).mono ?_; rintro e w2 ⟨rfl, hW2, hb2⟩))
  have hs1 := hb1.size
  have hs2 := hW2.lt
  have hbb : Below w.heap.size w w2 := hb1.trans (hb2.mono hs1)
  have hW3 := Whl_alloc (Whl_alloc hW2 (.map #[] 0)) (.cells #[.map (some w2.heap.size)] 40)
  have hT3 : Wts ((w2.alloc (.map #[] 0)).alloc (.cells #[.map (some w2.heap.size)] 40)) (w2.heap.size + 1) w2.heap.size [] := by
    refine ⟨?_, .map [], (World.ownsMap_made w2 Try.prog 3 (plainElem Try.prog 2)).alloc _, Rw.empty⟩
    have hb := heap_alloc_new (w2.alloc (.map #[] 0)) (.cells #[.map (some w2.heap.size)] 40)
    simp only [World.size_alloc] at hb
    rw [cell_of_row _ _ _ _ _ _ hb]; rfl
  have hB3 : Below w.heap.size w ((w2.alloc (.map #[] 0)).alloc (.cells #[.map (some w2.heap.size)] 40)) := (hbb.alloc hbb.size _).alloc (by simp; omega) _
  have hd : Hid (w.heap.size ≤ w1.heap.size + 1 ∧ w.heap.size ≤ w1.heap.size ∧ w.heap.size ≤ w2.heap.size + 1 ∧ w.heap.size ≤ w2.heap.size ∧ w2.heap.size + 1 ≠ w1.heap.size + 1 ∧ w2.heap.size + 1 ≠ w1.heap.size ∧ w2.heap.size ≠ w1.heap.size + 1 ∧ w2.heap.size ≠ w1.heap.size) := by
    show _ ∧ _
    omega
  clear hs1 hs2 hbb hb1 hb2 hW2 hmm
  generalize ((w2.alloc (.map #[] 0)).alloc (.cells #[.map (some w2.heap.size)] 40)) = w3 at *
  generalize w1.heap.size + 1 = pb at *
  generalize w1.heap.size = bm at *
  generalize w2.heap.size + 1 = cb at *
  generalize w2.heap.size = wm at *
  go_loopw [27] (fun iv wr => ∃ (j : Nat) (S : Wh), iv = .int .i64 j ∧ j ≤ l.length ∧ Ok j S ∧ Whl wr pb bm S ∧ Wts wr cb wm S.L ∧ Below w.heap.size w wr)
    (fun iv _ => l.length - (intOf iv).toNat)
  case atStart => exact ⟨0, _, rfl, Nat.zero_le _, Ok.new 0, hW3, hT3, hB3⟩
  case round =>
    clear hW3 hT3 hB3
    obtain ⟨j, S, rfl, hjl, hO, hW, hT, hbl⟩ := hrel
    obtain ⟨d1, d2, d3, d4, d5, d6, d7, d8⟩ := hd.out
    by_cases hj : j < l.length
    · rcases h with h | ⟨b, o, rfl, hA⟩
      · omega
      have hji : (j : Int) < (l.length : Int) := by omega
      have hj2 : Hid (j < 150) := by show _ < _; omega
      have z0 : wr.cell? ⟨b, o + j * 4, none⟩ = some (.int .i64 l[j]!.k) := (hbl.cell (p := ⟨b, o + j * 4, none⟩) hA.lt).trans (hA.ck j hj)
      have z1 : wr.cell? ⟨b, o + j * 4 + 1, none⟩ = some (.int .i64 l[j]!.i) := (hbl.cell (p := ⟨b, o + j * 4 + 1, none⟩) hA.lt).trans (hA.ci j hj)
      have z2 : wr.cell? ⟨b, o + j * 4 + 2, none⟩ = some (.int .i64 l[j]!.p) := (hbl.cell (p := ⟨b, o + j * 4 + 2, none⟩) hA.lt).trans (hA.cp j hj)
      have z3 : wr.cell? ⟨b, o + j * 4 + 3, none⟩ = some (.int .i64 l[j]!.a) := (hbl.cell (p := ⟨b, o + j * 4 + 3, none⟩) hA.lt).trans (hA.ca j hj)
      have wi : Hid ((Lit.int .i64 l[j]!.i).wf = true) := hA.wi j hj
      have wa : Hid (-9223372036854775808 ≤ l[j]!.a ∧ l[j]!.a < 9223372036854775808) := hA.wa j hj
      clear hA
      generalize l[j]! = x at *
      have hxa : Hid ((Lit.int .i64 x.a).wf = true) := WalkArith.wf_i64 (by have := wa.out; omega)
      have hbx : Hid (pb < wr.heap.size ∧ bm < wr.heap.size ∧ cb < wr.heap.size ∧ wm < wr.heap.size ∧ w.heap.size ≤ wr.heap.size) := ⟨hW.lt, hW.ltm, hT.lt, hT.ltm, hbl.size⟩
      have hmx : Hid (S.L.length < maxLen) := by show _ < _; have := hO.len; unfold maxLen; omega
      by_cases hk1 : x.k = 1
      · go_wp2_with fail
        have hWq := Whl_alloc hW (Obj.cells #[.int .i64 1, .int .i64 x.i, .int .i64 x.p, .int .i64 x.a] 27)
        have hTq := hT.alloc (Obj.cells #[.int .i64 1, .int .i64 x.i, .int .i64 x.p, .int .i64 x.a] 27)
        have hbq : Below w.heap.size w (wr.alloc (Obj.cells #[.int .i64 1, .int .i64 x.i, .int .i64 x.p, .int .i64 x.a] 27)) := hbl.alloc hbl.size _
        have hn := heap_alloc_new wr (Obj.cells #[.int .i64 1, .int .i64 x.i, .int .i64 x.p, .int .i64 x.a] 27)
        have hsq : wr.heap.size < (wr.alloc (Obj.cells #[.int .i64 1, .int .i64 x.i, .int .i64 x.p, .int .i64 x.a] 27)).heap.size := by simp
        clear hW hbl hT z0 z1 z2 z3
        generalize wr.alloc (Obj.cells #[.int .i64 1, .int .i64 x.i, .int .i64 x.p, .int .i64 x.a] 27) = wq at *
        generalize wr.heap.size = hb at *
        have n1 : wq.cell? ⟨hb, 1, none⟩ = some (.int .i64 x.i) := (cell_of_row _ _ 1 _ _ _ hn).trans rfl
        have n3 : wq.cell? ⟨hb, 3, none⟩ = some (.int .i64 x.a) := (cell_of_row _ _ 3 _ _ _ hn).trans rfl
        obtain ⟨b1, b2, b3, b4, b5⟩ := hbx.out
        clear hn

        have hadd := add_any (at_ := x.a) (id := x.i) hWq hO (by have := hj2.out; omega) wa.out.2 wi.out
        have hO3 := hO.add x.a x.i
        by_cases he : addE S x.a x.i = 0
        · have hS3 : addS S x.a x.i = ⟨S.now, S.turns + 1, S.L ++ [⟨x.a, x.i, S.turns⟩]⟩ := by simp [addS, he]
          have hno : Hid (∀ y ∈ S.L, y.i ≠ x.i) := hasId_false (addE_zero he)
          rw [he, hS3] at hadd
          rw [hS3] at hO3
          clear he hS3
          refine hadd.mono ?_
          rintro e w3 ⟨rfl, hW3, hK3⟩
          have hT3 := hTq.other hK3 d5 d6 d7 d8
          have hB3 : Below w.heap.size w w3 := hbq.trans (hK3.below d1 d2 hbq.size)
          have m1 := kp_cell hK3 n1 (show hb ≠ pb by omega) (show hb ≠ bm by omega)
          have m3 := kp_cell hK3 n3 (show hb ≠ pb by omega) (show hb ≠ bm by omega)
          have cc3 := hT3.cc
          obtain ⟨D, hown, hr⟩ := hT3.own
          have hr' : Hid (Rw D S.L) := hr
          clear hr n1 n3 hadd
          go_wp2_with (at_mapUpdate; refine wpList_mapUpdate_in _ rfl _ _ _ 40 rfl 3 2 lawK Try.underlying40 (plainElem Try.prog 2) wm _ D rfl hown hmx.out _ _ _ rfl rfl (keyOf_int_mk Try.underlying3 wi.out) _ [] (plainElem_int Try.underlying2 hxa.out) ?_; intro w4 hown4 hturn4; go_frame)
          have hT4 := Wts_put (x := ⟨x.a, x.i, S.turns⟩) hT3 hr'.out hno.out hown4 hturn4
          exact ⟨⟨j + 1, _, int_succ j, hj, hO3, Whl_turn hW3 hturn4 d7 d8, hT4, below_turn hB3 hturn4 d4 hB3.size⟩, meas_1 hj⟩
        · have hS3 : addS S x.a x.i = S := by simp [addS, he]
          rw [hS3] at hadd hO3
          clear hS3
          generalize addE S x.a x.i = ev at *
          refine hadd.mono ?_
          rintro e w3 ⟨rfl, hW3, hK3⟩
          have hT3 := hTq.other hK3 d5 d6 d7 d8
          have hB3 : Below w.heap.size w w3 := hbq.trans (hK3.below d1 d2 hbq.size)
          clear hadd n1 n3
          go_wp2_with fail
          exact ⟨⟨j + 1, _, int_succ j, hj, hO3, hW3, hT3, hB3⟩, meas_1 hj⟩
      by_cases hk2 : x.k = 2
      · obtain ⟨D, hown, hr⟩ := hT.own
        have cca := cell_alloc hT.cc
        cases hid : hasId S.L x.i
        · have hh : Maps.has D (ky x.i) = false := by rw [hr.any]; exact hid
          have hce : canE S x.i = 5 := by simp [canE, hid]
          clear hid hr
          go_wp2_with (at_lookup; refine wpList_lookup_tw _ rfl _ _ 40 rfl Try.underlying40 wm _ D rfl (hown.alloc _) _ _ rfl (keyOf_int_mk Try.underlying3 wi.out) _ hh ?_; intro c hat; clear hat)
          clear hown hh cca
          have hWq := Whl_alloc hW (Obj.cells #[.int .i64 2, .int .i64 x.i, .int .i64 x.p, .int .i64 x.a] 27)
          have hTq := hT.alloc (Obj.cells #[.int .i64 2, .int .i64 x.i, .int .i64 x.p, .int .i64 x.a] 27)
          have hbq : Below w.heap.size w (wr.alloc (Obj.cells #[.int .i64 2, .int .i64 x.i, .int .i64 x.p, .int .i64 x.a] 27)) := hbl.alloc hbl.size _
          have hn := heap_alloc_new wr (Obj.cells #[.int .i64 2, .int .i64 x.i, .int .i64 x.p, .int .i64 x.a] 27)
          have hsq : wr.heap.size < (wr.alloc (Obj.cells #[.int .i64 2, .int .i64 x.i, .int .i64 x.p, .int .i64 x.a] 27)).heap.size := by simp
          clear hW hbl hT z0 z1 z2 z3
          generalize wr.alloc (Obj.cells #[.int .i64 2, .int .i64 x.i, .int .i64 x.p, .int .i64 x.a] 27) = wq at *
          generalize wr.heap.size = hb at *
          have n1 : wq.cell? ⟨hb, 1, none⟩ = some (.int .i64 x.i) := (cell_of_row _ _ 1 _ _ _ hn).trans rfl
          have n3 : wq.cell? ⟨hb, 3, none⟩ = some (.int .i64 x.a) := (cell_of_row _ _ 3 _ _ _ hn).trans rfl
          obtain ⟨b1, b2, b3, b4, b5⟩ := hbx.out
          clear hn
          have hadd := cancel_any (id := x.i) hWq wi.out
          have hO3 := (hO.can x.i).mono (Nat.le_succ j)
          rw [hce] at hadd
          clear hce
          refine hadd.mono ?_
          rintro e w3 ⟨rfl, hW3, hK3⟩
          have hT3 := hTq.other hK3 d5 d6 d7 d8
          have hB3 : Below w.heap.size w w3 := hbq.trans (hK3.below d1 d2 hbq.size)
          have m1 := kp_cell hK3 n1 (show hb ≠ pb by omega) (show hb ≠ bm by omega)
          have cc3 := hT3.cc
          obtain ⟨D3, hown3, hr3⟩ := hT3.own
          have hr' : Hid (Rw D3 S.L) := hr3
          clear hr3 n1 n3 hadd
          go_wp2_with (at_delete; refine wpList_delete_own _ rfl _ _ 40 3 rfl 2 lawK Try.underlying40 (plainElem Try.prog 2) wm _ D3 rfl hown3 _ _ rfl (keyOf_int_mk Try.underlying3 wi.out) ?_; intro w4 hown4 hturn4; go_frame)
          have hT4 := Wts_del hT3 hr'.out hown4 hturn4
          exact ⟨⟨j + 1, _, int_succ j, hj, hO3, Whl_turn hW3 hturn4 d7 d8, hT4, below_turn hB3 hturn4 d4 hB3.size⟩, meas_1 hj⟩
        · have hh : Maps.has D (ky x.i) = true := by rw [hr.any]; exact hid
          have hce : canE S x.i = 0 := by simp [canE, hid]
          clear hid hr
          go_wp2_with (at_lookup; refine wpList_lookup_tw _ rfl _ _ 40 rfl Try.underlying40 wm _ D rfl (hown.alloc _) _ _ rfl (keyOf_int_mk Try.underlying3 wi.out) _ hh ?_; intro c hat; clear hat)
          clear hown hh cca
          have hWq := Whl_alloc hW (Obj.cells #[.int .i64 2, .int .i64 x.i, .int .i64 x.p, .int .i64 x.a] 27)
          have hTq := hT.alloc (Obj.cells #[.int .i64 2, .int .i64 x.i, .int .i64 x.p, .int .i64 x.a] 27)
          have hbq : Below w.heap.size w (wr.alloc (Obj.cells #[.int .i64 2, .int .i64 x.i, .int .i64 x.p, .int .i64 x.a] 27)) := hbl.alloc hbl.size _
          have hn := heap_alloc_new wr (Obj.cells #[.int .i64 2, .int .i64 x.i, .int .i64 x.p, .int .i64 x.a] 27)
          have hsq : wr.heap.size < (wr.alloc (Obj.cells #[.int .i64 2, .int .i64 x.i, .int .i64 x.p, .int .i64 x.a] 27)).heap.size := by simp
          clear hW hbl hT z0 z1 z2 z3
          generalize wr.alloc (Obj.cells #[.int .i64 2, .int .i64 x.i, .int .i64 x.p, .int .i64 x.a] 27) = wq at *
          generalize wr.heap.size = hb at *
          have n1 : wq.cell? ⟨hb, 1, none⟩ = some (.int .i64 x.i) := (cell_of_row _ _ 1 _ _ _ hn).trans rfl
          have n3 : wq.cell? ⟨hb, 3, none⟩ = some (.int .i64 x.a) := (cell_of_row _ _ 3 _ _ _ hn).trans rfl
          obtain ⟨b1, b2, b3, b4, b5⟩ := hbx.out
          clear hn
          have hadd := cancel_any (id := x.i) hWq wi.out
          have hO3 := (hO.can x.i).mono (Nat.le_succ j)
          rw [hce] at hadd
          clear hce
          refine hadd.mono ?_
          rintro e w3 ⟨rfl, hW3, hK3⟩
          have hT3 := hTq.other hK3 d5 d6 d7 d8
          have hB3 : Below w.heap.size w w3 := hbq.trans (hK3.below d1 d2 hbq.size)
          have m1 := kp_cell hK3 n1 (show hb ≠ pb by omega) (show hb ≠ bm by omega)
          have cc3 := hT3.cc
          obtain ⟨D3, hown3, hr3⟩ := hT3.own
          have hr' : Hid (Rw D3 S.L) := hr3
          clear hr3 n1 n3 hadd
          go_wp2_with (at_delete; refine wpList_delete_own _ rfl _ _ 40 3 rfl 2 lawK Try.underlying40 (plainElem Try.prog 2) wm _ D3 rfl hown3 _ _ rfl (keyOf_int_mk Try.underlying3 wi.out) ?_; intro w4 hown4 hturn4; go_frame)
          have hT4 := Wts_del hT3 hr'.out hown4 hturn4
          exact ⟨⟨j + 1, _, int_succ j, hj, hO3, Whl_turn hW3 hturn4 d7 d8, hT4, below_turn hB3 hturn4 d4 hB3.size⟩, meas_1 hj⟩
      go_wp2_with fail
      have hWq := Whl_alloc hW (Obj.cells #[.int .i64 x.k, .int .i64 x.i, .int .i64 x.p, .int .i64 x.a] 27)
      have hTq := hT.alloc (Obj.cells #[.int .i64 x.k, .int .i64 x.i, .int .i64 x.p, .int .i64 x.a] 27)
      have hbq : Below w.heap.size w (wr.alloc (Obj.cells #[.int .i64 x.k, .int .i64 x.i, .int .i64 x.p, .int .i64 x.a] 27)) := hbl.alloc hbl.size _
      have hn := heap_alloc_new wr (Obj.cells #[.int .i64 x.k, .int .i64 x.i, .int .i64 x.p, .int .i64 x.a] 27)
      have hsq : wr.heap.size < (wr.alloc (Obj.cells #[.int .i64 x.k, .int .i64 x.i, .int .i64 x.p, .int .i64 x.a] 27)).heap.size := by simp
      clear hW hbl hT z0 z1 z2 z3
      generalize wr.alloc (Obj.cells #[.int .i64 x.k, .int .i64 x.i, .int .i64 x.p, .int .i64 x.a] 27) = wq at *
      generalize wr.heap.size = hb at *
      have n1 : wq.cell? ⟨hb, 1, none⟩ = some (.int .i64 x.i) := (cell_of_row _ _ 1 _ _ _ hn).trans rfl
      have n3 : wq.cell? ⟨hb, 3, none⟩ = some (.int .i64 x.a) := (cell_of_row _ _ 3 _ _ _ hn).trans rfl
      obtain ⟨b1, b2, b3, b4, b5⟩ := hbx.out
      clear hn
      by_cases hbad : x.a < 0 ∨ 16777216 < x.a
      · have hadv := adv_bad (w := wq) (pb := pb) hbad
        have hclo := once_any (F := []) (p := none) (fcap := 0) (g0 := 0) hTq (World.ownsRow_nil _ _ _ _) (fun _ h => by cases h) (by simp) (fun _ h => by cases h) List.Pairwise.nil (fun _ h => by cases h)
        rw [dropAll_nil] at hclo
        simp only [List.length_nil] at hclo
        clear hbad
        refine hadv.mono ?_
        rintro e w3 ⟨rfl, hw3⟩
        rw [hw3]
        clear hw3 hadv
        go_wp2_with (go_at_call 14; refine hclo.mono ?_; rintro e w4 ⟨rfl, hT4, hK4⟩)
        exact ⟨⟨j + 1, S, int_succ j, hj, hO.mono (Nat.le_succ j), hK4.other hWq (Ne.symm d7) (Ne.symm d7) (Ne.symm d8) (Ne.symm d8), hT4, hbq.trans (hK4.below d4 d4 hbq.size)⟩, meas_1 hj⟩
      · have hadv := adv_ok2 (n := x.a) hWq hO (by have := hj2.out; omega) (by omega) (by omega)
        have hO3 : Ok (j + 1) (advS S x.a) := hO.adv (by omega) (by omega)
        have hlen := due_len hO x.a
        have hsub := due_sub (S := S) (n := x.a)
        have hids := due_ids hO x.a
        have hwf : ∀ y ∈ dueL S x.a, (Lit.int .i64 y.i).wf = true := fun y hy => Whl_wf hWq y (hsub y hy)
        have hall := due_all hO x.a
        have hltm := hTq.ltm
        generalize dueL S x.a = F at *
        generalize advS S x.a = S3 at *
        clear hbad
        refine hadv.mono ?_
        rintro e w3 ⟨p, fcap, rfl, hrow, hW3, hK3⟩
        have hT3 := hTq.other hK3 d5 d6 d7 d8
        have hB3 : Below w.heap.size w w3 := hbq.trans (hK3.below d1 d2 hbq.size)
        have hclo := once_any hT3 hrow (fun a ha => by have := (hrow.lt a.block (by rw [ha]; rfl)).1; omega) hlen hsub hids hwf
        rw [hall] at hclo
        clear hadv hsub hids hwf hall hrow hlen n1 n3
        go_wp2_with (go_at_call 14; refine hclo.mono ?_; rintro e w4 ⟨rfl, hT4, hK4⟩)
        exact ⟨⟨j + 1, S3, int_succ j, hj, hO3, hK4.other hW3 (Ne.symm d7) (Ne.symm d7) (Ne.symm d8) (Ne.symm d8), hT4, hB3.trans (hK4.below d4 d4 hB3.size)⟩, meas_1 hj⟩
    · have hji : ¬ (j : Int) < (l.length : Int) := by omega
      have hj2 : j ≤ 150 := by omega
      have hadv := adv_ok2 (n := 16777216) hW hO (by omega) (by omega) (by omega)
      have hlen := due_len hO 16777216
      have hsub := due_sub (S := S) (n := 16777216)
      have hids := due_ids hO 16777216
      have hwf : ∀ y ∈ dueL S 16777216, (Lit.int .i64 y.i).wf = true := fun y hy => Whl_wf hW y (hsub y hy)
      have hall := due_all hO 16777216
      have hnone := adv_none hO
      have hltm := hT.ltm
      rw [hnone] at hall
      generalize dueL S 16777216 = F at *
      generalize advS S 16777216 = S3 at *
      go_wp2_with fail
      refine hadv.mono ?_
      rintro e w3 ⟨p, fcap, rfl, hrow, hW3, hK3⟩
      have hT3 := hT.other hK3 d5 d6 d7 d8
      have hB3 : Below w.heap.size w w3 := hbl.trans (hK3.below d1 d2 hbl.size)
      have hnx := next_any hW3
      rw [someB_nil hnone] at hnx
      generalize leastA S3.L = la at *
      clear hadv
      go_wp2_with (go_at_call 13; refine hnx.mono ?_; rintro e w4 ⟨rfl, hb4⟩)
      have hT4 := hT3.below hb4 hT3.lt hT3.ltm
      have hrow4 := hrow.kept (w' := w4) (row := none) ⟨hb4.os, hb4.tape, hb4.output, hb4.size, fun k hk _ => hb4.block k hk⟩ (by cases p <;> simp [Value.ownBlock])
      have hB4 : Below w.heap.size w w4 := hB3.trans (hb4.mono hB3.size)
      have hclo := once_any hT4 hrow4 (fun a ha => by have := (hrow.lt a.block (by rw [ha]; rfl)).1; omega) hlen hsub hids hwf
      rw [hall] at hclo
      clear hsub hids hwf hall hrow hrow4 hlen hnx hT3 hT4
      refine hclo.mono ?_
      rintro e w5 ⟨rfl, hT5, hK5⟩
      have cc5 := hT5.cc
      obtain ⟨D, hown, hr⟩ := hT5.own
      have hl0 : ∀ ty, (Builtin.len_ #[40] ty #[.map (some wm)]).run Try.prog w5 = .ok (.int .i64 0) w5 := fun ty => by
        have := hown.len Try.underlying40 ty
        rw [show Maps.size D = 0 from hr.size] at this
        exact this
      clear hr
      go_wp2
      go_ret
      exact ⟨rfl, hB4.trans (hK5.below d4 d4 hB4.size)⟩
end Go.Proofs.Ytejfogajlddaeaa
