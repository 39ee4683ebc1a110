/- WheelSorted, walked. -/
import Derived.Test.YtejfogajlddaeaaWla
namespace Go.Proofs.Ytejfogajlddaeaa
open Go.RowKit Go.Maps Go.Shelf Go.Lib Go.Sort Whm
set_option linter.unusedSectionVars false
variable [Inhabited Tm]
variable [Inhabited Ac]

theorem whl_drewN {w : World} {pb bm : Nat} {S : Wh} (h : Whl w pb bm S) (q : Nat) : Whl (w.drewN q) pb bm S := h.kept rfl rfl

set_option maxHeartbeats 1000000 in
set_option maxRecDepth 100000 in
theorem wheelSorted_walk (w : World) (q : Option Addr) (l : List Ac) (cap : Nat) (h : Acts w q l) :
    Calls Try.prog 3 #[.slice q l.length cap] w fun e w' => e = .returned (.bool true) ∧ Below w.heap.size w w' := by
  by_cases h200 : (200 : Int) < (l.length : Int)
  · clear h
    go_enter Try.func3, Try.ntmps3
    go_wp2_with (go_at_call 7; refine (wheels_any _).mono ?_; rintro e w1 ⟨rfl, hb1⟩)
    go_ret
    exact ⟨rfl, hb1⟩
  go_enter Try.func3, Try.ntmps3
  go_wp2_with (first
    | (go_at_call 7; refine (wheels_any _).mono ?_; rintro e w1 ⟨rfl, hb1⟩)
    | (go_at_call 8; refine (new_any _).mono ?_; rintro e w2 ⟨rfl, hW2, hb2⟩))
  have hs1 := hb1.size
  have hbb : Below w.heap.size w w2 := hb1.trans (hb2.mono hs1)
  have hpb : Hid (w.heap.size ≤ w1.heap.size + 1 ∧ w.heap.size ≤ w1.heap.size) := ⟨by omega, by omega⟩
  have hne : Hid (w1.heap.size + 1 ≠ w1.heap.size) := by show _ ≠ _; omega
  generalize hpbe : w1.heap.size + 1 = pb at *
  generalize w1.heap.size = bm at *
  clear hpbe hs1 hb1 hb2
  go_loopw [22] (fun iv wr => ∃ (j : Nat) (S : Wh), iv = .int .i64 j ∧ j ≤ l.length ∧ Ok j S ∧ Whl wr pb bm S ∧ Below w.heap.size w wr)
    (fun iv _ => l.length - (intOf iv).toNat)
  case atStart => exact ⟨0, _, rfl, Nat.zero_le _, Ok.new 0, hW2, hbb⟩
  case round =>
    clear hW2 hbb
    obtain ⟨j, S, rfl, hjl, hO, hW, hbl⟩ := hrel
    by_cases hj : j < l.length
    · rcases h with h | ⟨b, o, rfl, hA⟩
      · omega
      have hji : (j : Int) < (l.length : Int) := by omega
      have hj2 : Hid (j < 200) := by show _ < _; omega
      have z0 : wr.cell? ⟨b, o + j * 4, none⟩ = some (.int .i64 l[j]!.k) := (hbl.cell (p := ⟨b, o + j * 4, none⟩) hA.lt).trans (hA.ck j hj)
      have z1 : wr.cell? ⟨b, o + j * 4 + 1, none⟩ = some (.int .i64 l[j]!.i) := (hbl.cell (p := ⟨b, o + j * 4 + 1, none⟩) hA.lt).trans (hA.ci j hj)
      have z2 : wr.cell? ⟨b, o + j * 4 + 2, none⟩ = some (.int .i64 l[j]!.p) := (hbl.cell (p := ⟨b, o + j * 4 + 2, none⟩) hA.lt).trans (hA.cp j hj)
      have z3 : wr.cell? ⟨b, o + j * 4 + 3, none⟩ = some (.int .i64 l[j]!.a) := (hbl.cell (p := ⟨b, o + j * 4 + 3, none⟩) hA.lt).trans (hA.ca j hj)
      have wi : Hid ((Lit.int .i64 l[j]!.i).wf = true) := hA.wi j hj
      have wa : Hid (-9223372036854775808 ≤ l[j]!.a ∧ l[j]!.a < 9223372036854775808) := hA.wa j hj
      clear hA
      generalize l[j]! = x at *
      go_wp2_with fail
      have hWq := Whl_alloc hW (Obj.cells #[.int .i64 x.k, .int .i64 x.i, .int .i64 x.p, .int .i64 x.a] 27)
      have hbq : Below w.heap.size w (wr.alloc (Obj.cells #[.int .i64 x.k, .int .i64 x.i, .int .i64 x.p, .int .i64 x.a] 27)) := hbl.alloc hbl.size _
      have hn := heap_alloc_new wr (Obj.cells #[.int .i64 x.k, .int .i64 x.i, .int .i64 x.p, .int .i64 x.a] 27)
      have hsq : wr.heap.size < (wr.alloc (Obj.cells #[.int .i64 x.k, .int .i64 x.i, .int .i64 x.p, .int .i64 x.a] 27)).heap.size := by simp
      have hbx : Hid (pb < wr.heap.size ∧ bm < wr.heap.size ∧ w.heap.size ≤ wr.heap.size) := ⟨hW.lt, hW.ltm, hbl.size⟩
      clear hW hbl z0 z1 z2 z3
      generalize wr.alloc (Obj.cells #[.int .i64 x.k, .int .i64 x.i, .int .i64 x.p, .int .i64 x.a] 27) = wq at *
      generalize wr.heap.size = hb at *
      have n0 : wq.cell? ⟨hb, 0, none⟩ = some (.int .i64 x.k) := (cell_of_row _ _ 0 _ _ _ hn).trans rfl
      have n1 : wq.cell? ⟨hb, 1, none⟩ = some (.int .i64 x.i) := (cell_of_row _ _ 1 _ _ _ hn).trans rfl
      have n3 : wq.cell? ⟨hb, 3, none⟩ = some (.int .i64 x.a) := (cell_of_row _ _ 3 _ _ _ hn).trans rfl
      have hn' : Hid (wq.heap[hb]? = some (Obj.cells #[.int .i64 x.k, .int .i64 x.i, .int .i64 x.p, .int .i64 x.a] 27)) := hn
      clear hn
      refine (now_any hWq).mono ?_
      rintro e w' ⟨rfl, hw'⟩
      rw [hw']
      clear hw' w'
      by_cases hk1 : x.k = 1
      · have hadd := add_any (at_ := x.a) (id := x.i) hWq hO (by have := hj2.out; omega) wa.out.2 wi.out
        have hO3 := hO.add x.a x.i
        generalize addE S x.a x.i = ev at hadd
        generalize addS S x.a x.i = S3 at *
        go_wp2_with (go_at_call 10; refine hadd.mono ?_; rintro e w3 ⟨rfl, hW3, hK3⟩)
        have hB3 : Below w.heap.size w w3 := hbq.trans (hK3.below hpb.out.1 hpb.out.2 hbq.size)
        have hnx := next_any hW3
        cases hsb : someB S3.L
        · rw [hsb] at hnx
          have hW0 := hW3
          clear hsb
          go_wp2_with (go_at_call 13; refine hnx.mono ?_; rintro e w4 ⟨rfl, hb4⟩)
          exact ⟨⟨j + 1, S3, int_succ j, hj, hO3, hW0.below hb4 hW0.lt hW0.ltm, hB3.trans (hb4.mono hB3.size)⟩, meas_1 hj⟩
        · rw [hsb] at hnx
          have hlt : S3.now < leastA S3.L := hO3.least (by intro e; rw [e] at hsb; cases hsb)
          generalize leastA S3.L = la at *
          clear hsb
          go_wp2_with (first
            | (go_at_call 13; refine hnx.mono ?_; rintro e w4 ⟨rfl, hb4⟩; have hW4 := hW3.below hb4 hW3.lt hW3.ltm)
            | (go_at_call 9; refine (now_any hW4).mono ?_; rintro e w5 ⟨rfl, hw5⟩; rw [hw5]; clear hw5))
          exact ⟨⟨j + 1, S3, int_succ j, hj, hO3, hW4, hB3.trans (hb4.mono hB3.size)⟩, meas_1 hj⟩

      by_cases hk2 : x.k = 2
      · have hadd := cancel_any (id := x.i) hWq wi.out
        have hO3 := (hO.can x.i).mono (Nat.le_succ j)
        generalize canE S x.i = ev at hadd
        generalize canS S x.i = S3 at *
        go_wp2_with (go_at_call 11; refine hadd.mono ?_; rintro e w3 ⟨rfl, hW3, hK3⟩)
        have hB3 : Below w.heap.size w w3 := hbq.trans (hK3.below hpb.out.1 hpb.out.2 hbq.size)
        have hnx := next_any hW3
        cases hsb : someB S3.L
        · rw [hsb] at hnx
          have hW0 := hW3
          clear hsb
          go_wp2_with (go_at_call 13; refine hnx.mono ?_; rintro e w4 ⟨rfl, hb4⟩)
          exact ⟨⟨j + 1, S3, int_succ j, hj, hO3, hW0.below hb4 hW0.lt hW0.ltm, hB3.trans (hb4.mono hB3.size)⟩, meas_1 hj⟩
        · rw [hsb] at hnx
          have hlt : S3.now < leastA S3.L := hO3.least (by intro e; rw [e] at hsb; cases hsb)
          generalize leastA S3.L = la at *
          clear hsb
          go_wp2_with (first
            | (go_at_call 13; refine hnx.mono ?_; rintro e w4 ⟨rfl, hb4⟩; have hW4 := hW3.below hb4 hW3.lt hW3.ltm)
            | (go_at_call 9; refine (now_any hW4).mono ?_; rintro e w5 ⟨rfl, hw5⟩; rw [hw5]; clear hw5))
          exact ⟨⟨j + 1, S3, int_succ j, hj, hO3, hW4, hB3.trans (hb4.mono hB3.size)⟩, meas_1 hj⟩

      by_cases hbad : x.a < 0 ∨ 16777216 < x.a
      · have hadv := adv_bad (w := wq) (pb := pb) hbad
        clear hbad
        go_wp2_with (first
          | (go_at_call 12; refine hadv.mono ?_; rintro e w3 ⟨rfl, hw3⟩; rw [hw3]; clear hw3)
          | (go_at_call 9; refine (now_any hWq).mono ?_; rintro e w5 ⟨rfl, hw5⟩; rw [hw5]; clear hw5))
        exact ⟨⟨j + 1, S, int_succ j, hj, hO.mono (Nat.le_succ j), hWq, hbq⟩, meas_1 hj⟩
      · have hadv := adv_ok2 (n := x.a) hWq hO (by have := hj2.out; omega) (by omega) (by omega)
        have hO3 : Ok (j + 1) (advS S x.a) := hO.adv (by omega) (by omega)
        have hnow3 : (advS S x.a).now = S.now + x.a := rfl
        have hlow : Hid (∀ y ∈ dueL S x.a, S.now < y.a ∧ y.a ≤ S.now + x.a) := due_low hO
        have hmono : Hid (∀ i j, i < j → j < (dueL S x.a).length → (dueL S x.a)[i]!.a ≤ (dueL S x.a)[j]!.a) := fun i j => due_mono
        have hlen : Hid ((dueL S x.a).length ≤ 200) := due_len hO _
        have hwr : wrap64 (S.now + 1) = S.now + 1 := by have := hO.now0; have := hO.nowk; have := hj2.out; unfold wrap64; omega
        have hwr2 : wrap64 (S.now + x.a) = S.now + x.a := by have := hO.now0; have := hO.nowk; have := hj2.out; unfold wrap64; omega
        generalize dueL S x.a = F at *
        generalize advS S x.a = S3 at *
        clear hbad
        go_wp2_with (go_at_call 12; refine hadv.mono ?_; rintro e w3 ⟨p, fcap, rfl, hrow, hW3, hK3⟩)
        have hB3 : Below w.heap.size w w3 := hbq.trans (hK3.below hpb.out.1 hpb.out.2 hbq.size)
        have hbx3 := hbx.out
        have m3 : Hid (w3.cell? ⟨hb, 3, none⟩ = some (.int .i64 x.a)) := (World.cell?_of_block (w := wq) (a := ⟨hb, 3, none⟩) (hK3.block hb hsq (by omega) (by omega))).trans n3
        have hb3 : hb < w3.heap.size := Nat.lt_of_lt_of_le hsq hK3.size
        clear n0 n1 n3 hn' hWq hbq hK3 hadv
        go_loopw [9, 52] (fun lv iv wi => ∃ (i : Nat) (m : Int), lv = .int .i64 m ∧ iv = .int .i64 i ∧ i ≤ F.length ∧ Hid (∀ t, i ≤ t → t < F.length → m ≤ F[t]!.a) ∧ Below w3.heap.size w3 wi)
          (fun _ iv _ => F.length - (intOf iv).toNat)
        case atStart =>
          refine ⟨0, S.now + 1, by rw [hwr], rfl, Nat.zero_le _, fun t _ ht => ?_, Below.refl _ _⟩
          have := (hlow.out F[t]! (by rw [getElem!_pos F t ht]; exact List.getElem_mem _)).1
          omega
        case round =>
          obtain ⟨i, m, rfl, rfl, hil, hm, hbi⟩ := hrel
          by_cases hi : i < F.length
          · rcases hrow.2 with ⟨_, h0⟩ | ⟨g, cap', cur, hv, hrest⟩
            · omega
            · obtain ⟨rfl, rfl⟩ : p = some ⟨g, 0, none⟩ ∧ fcap = cap' := by simpa using hv
              clear hrest hv
              have hg3 := (hrow.lt g rfl).2
              obtain ⟨e0, e1⟩ := flatF_get hi
              have z0 : wr.cell? ⟨g, i * 2, none⟩ = some (.int .i64 F[i]!.a) := (hbi.cell (p := ⟨g, i * 2, none⟩) hg3).trans ((hrow.cellAt (i * 2) (by omega)).trans e0)
              have z1 : wr.cell? ⟨g, i * 2 + 1, none⟩ = some (.int .i64 F[i]!.i) := (hbi.cell (p := ⟨g, i * 2 + 1, none⟩) hg3).trans ((hrow.cellAt (i * 2 + 1) (by omega)).trans e1)
              clear e0 e1
              have hlo := hlow.out F[i]! (by rw [getElem!_pos F i hi]; exact List.getElem_mem _)
              have hmi := hm.out i (Nat.le_refl _) hi
              have hnx : Hid (∀ t, i + 1 ≤ t → t < F.length → F[i]!.a ≤ F[t]!.a) := fun t h1 h2 => hmono.out i t (by omega) h2
              generalize F[i]! = y at *
              have hii : (i : Int) < (F.length : Int) := by omega
              have hd1 : decide (y.a < m) = false := by simp; omega
              go_wp2
              have hWr := Whl_alloc (hW3.below hbi hW3.lt hW3.ltm) (Obj.cells #[.int .i64 y.a, .int .i64 y.i] 36)
              have hbf : Below w3.heap.size w3 (wr.alloc (Obj.cells #[.int .i64 y.a, .int .i64 y.i] 36)) := hbi.alloc hbi.size _
              have hn := heap_alloc_new wr (Obj.cells #[.int .i64 y.a, .int .i64 y.i] 36)
              clear z0 z1
              generalize wr.alloc (Obj.cells #[.int .i64 y.a, .int .i64 y.i] 36) = wz at *
              generalize wr.heap.size = hc at *
              have k0 : wz.cell? ⟨hc, 0, none⟩ = some (.int .i64 y.a) := (cell_of_row _ _ 0 _ _ _ hn).trans rfl
              clear hn
              have hWd := fun q => whl_drewN hWr q
              have hd2 : ¬ S3.now < y.a := by rw [hnow3]; omega
              go_quiet ((go_at_call 9; refine Calls.quiet_of_same (now_any (hWd _))))
              go_wp2
              have hi2 : i ≤ 100000 := Nat.le_trans hil (Nat.le_trans hlen.out (by decide))
              exact ⟨⟨i + 1, y.a, rfl, int_wsucc hi2, hi, hnx, drewN_below hbf nq⟩, meas_w hi hi2⟩
          · have hii : ¬ (i : Int) < (F.length : Int) := by omega
            go_wp2
            have hWr := hW3.below hbi hW3.lt hW3.ltm
            have c3 : wr.cell? ⟨hb, 3, none⟩ = some (.int .i64 x.a) := (hbi.cell (p := ⟨hb, 3, none⟩) hb3).trans m3.out
            have hWd := fun q => whl_drewN hWr q
            go_quiet ((go_at_call 9; refine Calls.quiet_of_same (now_any (hWd _))))
            have hW3' := hWd nq
            have hB3' : Below w.heap.size w (wr.drewN nq) := (hB3.trans (hbi.mono hB3.size)).trans ⟨rfl, rfl, rfl, Nat.le_refl _, fun _ _ => rfl⟩
            clear hW3 hB3 hWr hWd c3 hbi
            have hW3 := hW3'
            have hB3 := hB3'
            clear hW3' hB3'
            generalize wr.drewN nq = wz at *
            go_wp2_with fail
            have hnx := next_any hW3
            cases hsb : someB S3.L
            · rw [hsb] at hnx
              have hW0 := hW3
              clear hsb
              go_wp2_with (go_at_call 13; refine hnx.mono ?_; rintro e w4 ⟨rfl, hb4⟩)
              exact ⟨⟨j + 1, S3, int_succ j, hj, hO3, hW0.below hb4 hW0.lt hW0.ltm, hB3.trans (hb4.mono hB3.size)⟩, meas_1 hj⟩
            · rw [hsb] at hnx
              have hlt : S3.now < leastA S3.L := hO3.least (by intro e; rw [e] at hsb; cases hsb)
              generalize leastA S3.L = la at *
              clear hsb
              go_wp2_with (first
                | (go_at_call 13; refine hnx.mono ?_; rintro e w4 ⟨rfl, hb4⟩; have hW4 := hW3.below hb4 hW3.lt hW3.ltm)
                | (go_at_call 9; refine (now_any hW4).mono ?_; rintro e w5 ⟨rfl, hw5⟩; rw [hw5]; clear hw5))
              exact ⟨⟨j + 1, S3, int_succ j, hj, hO3, hW4, hB3.trans (hb4.mono hB3.size)⟩, meas_1 hj⟩

    · have hji : ¬ (j : Int) < (l.length : Int) := by omega
      go_wp2
      go_ret
      exact ⟨rfl, hbl⟩
end Go.Proofs.Ytejfogajlddaeaa
