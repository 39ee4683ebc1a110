/- QueueSorted, walked. -/
import Derived.Test.YtjcnoidmakcfeaaQla
import Derived.Shelf.SlSortCmp.QuietGrown
import Derived.BigQuiet
namespace Go.Proofs.Ytjcnoidmakcfeaa
open Go.RowKit Go.Maps Go.Sort Qum
set_option linter.unusedSectionVars false

theorem eqlI (a i b j : Int) (w : World) : (binOp .eql 30 (.agg #[.int .i64 a, .int .i64 i]) (.agg #[.int .i64 b, .int .i64 j])).run Try.prog w = .ok (.bool (decide (a = b) && decide (i = j))) w := by
  have u3 := Try.underlying3
  have a3 := Try.isAgg3
  have z3 := Try.sizeOf3
  have hS : Try.prog.underlying 30 = some (.struct (Try.prog.fieldsOf 30)) := by kernel_rfl
  have hp : Try.prog.stoodInHeld 30 = false := by kernel_rfl
  rw [run_eql_struct, show (10000 : Nat) = 9999 + 1 from rfl, run_equalIn_agg w 9999 30 _ _ hS hp]
  simp only [Program.fieldsOf, Try.underlying30]
  by_cases h1 : a = b <;> by_cases h2 : i = j <;> simp only [h1, h2] <;> go_simp

set_option maxHeartbeats 1000000 in
set_option maxRecDepth 100000 in
theorem index_any {w : World} {q : Option Addr} {l : List Th} {cap : Nat} {x : Th} (h : Its w q l) (hl : l.length ≤ 200) (hu : uniq l) (hx : x ∈ l) :
    Calls Try.prog 14 #[.slice q l.length cap, .agg #[.int .i64 x.p, .int .i64 x.i]] w fun e w' => e = .returned (.int .i64 x.t) ∧ ∃ q os', w' = grow (w.drewN q) os' := by
  obtain ⟨n, hn, hxn⟩ : ∃ n, n < l.length ∧ th l n = x := by
    obtain ⟨k, hk, e⟩ := List.getElem_of_mem hx
    exact ⟨k, hk, by rw [th_get hk, e]⟩
  have hxt := h.1 n hn
  rw [hxn] at hxt
  have hne : Hid (∀ j, j < n → (th l j).i ≠ x.i) := fun j hj e => by
    unfold uniq at hu
    rw [List.pairwise_iff_getElem] at hu
    have := hu j n (by omega) hn hj
    rw [← th_get (by omega), ← th_get hn, hxn] at this
    exact this e
  have hxn' : Hid (th l n = x) := hxn
  have hxt' : Hid (x.t = n) := hxt
  have hn' : Hid (n < l.length) := hn
  have heq := eqlI
  rcases h.2 with h0 | ⟨b, o, rfl, hA⟩
  · omega
  clear h hu hx hxn hxt
  go_enter Try.func14, Try.ntmps14
  go_wp2
  have hba : Hid (Below w.heap.size w (w.alloc (.cells #[.int .i64 x.p, .int .i64 x.i] 30))) := (Below.refl _ _).alloc (Nat.le_refl _) _
  have hAa : ItsAt (w.alloc (.cells #[.int .i64 x.p, .int .i64 x.i] 30)) b o l := hA.below hba.out hA.lt
  obtain ⟨_, x0, x1, _, _⟩ := box_facts (heap_alloc_new w (.cells #[.int .i64 x.p, .int .i64 x.i] 30))
  have hsa : Hid (w.heap.size < (w.alloc (.cells #[.int .i64 x.p, .int .i64 x.i] 30)).heap.size) := by show _ < _; simp
  have hwa' : Hid (∀ n, (w.alloc (.cells #[.int .i64 x.p, .int .i64 x.i] 30)).drewN n = grow (w.drewN n) #[.cells #[.int .i64 x.p, .int .i64 x.i] 30]) := fun n => by rw [alloc_eq_grow]; rfl
  clear hA
  generalize w.alloc (.cells #[.int .i64 x.p, .int .i64 x.i] 30) = wa at *
  generalize hws : w.heap.size = ws at *
  have hws' : Hid (w.heap.size = ws) := hws
  clear hws
  go_loopw [8] (fun iv wr => ∃ j : Nat, iv = .int .i64 j ∧ j ≤ n ∧ ∃ m, wr = wa.drewN m)
    (fun iv _ => l.length - (intOf iv).toNat)
  case atStart => exact ⟨0, rfl, Nat.zero_le _, 0, rfl⟩
  case round =>
    obtain ⟨j, rfl, hjn, m, rfl⟩ := hrel
    have hjl : j < l.length := by have := hn'.out; omega
    have z0 := hAa.cp j hjl
    have z1 := hAa.ci j hjl
    have hji : (j : Int) < (l.length : Int) := by omega
    have hj2 : Hid (j ≤ 100000) := by show _ ≤ _; omega
    have hjl' : Hid (j < l.length) := hjl
    clear hAa
    by_cases hj : j = n
    · subst hj
      have e := hxn'.out
      rw [e] at z0 z1
      clear e
      go_wp2
      go_quiet (fail)
      go_wp2
      go_ret
      exact ⟨by rw [hxt'.out]; rfl, _, _, by rw [World.drewN_drewN]; exact hwa'.out _⟩
    · have hd : (th l j).i ≠ x.i := hne.out j (by omega)
      have hd' : ¬ x.i = (th l j).i := fun e => hd e.symm
      generalize th l j = y at *
      go_wp2
      go_quiet (fail)
      go_wp2
      refine ⟨⟨j + 1, ?_, by omega, _, rfl⟩, ?_⟩
      · first | exact int_succ j | exact int_wsucc hj2.out
      · first | exact meas_1 hjl'.out | exact meas_w hjl'.out hj2.out

theorem below_grow (w : World) (q : Nat) (os : Array Obj) : Below w.heap.size w (grow (w.drewN q) os) := ⟨rfl, rfl, rfl, by simp [grow], fun _ hk => heap_grow_old _ _ hk⟩
/-- Two that stand behind each other in the row. -/
theorem row_two {l : List Th} (hu : l.Pairwise fun x y => x.t ≠ y.t) {j : Nat} (hj : j + 1 < (srt l).length) : (th (srt l) (j + 1)).p ≤ (th (srt l) j).p ∧ ((th (srt l) j).p = (th (srt l) (j + 1)).p → (th (srt l) j).t < (th (srt l) (j + 1)).t) := by
  have hs := srt_sorted l
  have ht := ((srt_perm l).pairwise_iff (R := fun x y : Th => x.t ≠ y.t) (fun hne e => hne e.symm)).2 hu
  rw [List.pairwise_iff_getElem] at hs ht
  have h1 := hs j (j + 1) (by omega) hj (by omega)
  have h2 := ht j (j + 1) (by omega) hj (by omega)
  rw [← th_get, ← th_get] at h1 h2
  simp [ltQ] at h1
  omega
theorem its_tne {w : World} {q : Option Addr} {l : List Th} (h : Its w q l) : l.Pairwise fun x y => x.t ≠ y.t := by
  rw [List.pairwise_iff_getElem]
  intro a b ha hb hab
  rw [← th_get ha, ← th_get hb, h.1 a ha, h.1 b hb]
  omega

set_option maxHeartbeats 1000000 in
set_option maxRecDepth 100000 in
theorem queueSorted_walk (w : World) (q : Option Addr) (l : List Th) (cap : Nat) (h : Its w q l) :
    Calls Try.prog 4 #[.slice q l.length cap] w fun e w' => e = .returned (.bool true) ∧ Below w.heap.size w w' := by
  have hIw : ∀ w1, Below w.heap.size w w1 → Its w1 q l := fun w1 hb => ⟨h.1, by
    rcases h.2 with h0 | ⟨b, o, e, hA⟩
    · exact Or.inl h0
    · exact Or.inr ⟨b, o, e, hA.below hb hA.lt⟩⟩
  by_cases h200 : 200 < l.length
  · go_enter Try.func4, Try.ntmps4
    go_wp2_with (first
      | (go_at_call 13; refine (queues_any _).mono ?_; rintro e w1 ⟨rfl, hb1⟩)
      | (go_at_call 9; refine (sort_large _ _ _ _ h200).mono ?_; rintro e w2 ⟨rfl, hb2⟩)
      | go_in)
    go_ret
    exact ⟨rfl, hb1.trans (hb2.mono hb1.size)⟩
  by_cases hu : uniq l
  · have htne : Hid _ := its_tne h
    have hsort : Hid (∀ w1, Below w.heap.size w w1 → _) := fun w1 hb => sort_uniq (cap := cap) (hIw w1 hb) (by omega) hu
    have hidx : Hid (∀ w1 x, Below w.heap.size w w1 → x ∈ l → _) := fun w1 x hb hx => index_any (w := w1) (q := q) (cap := cap) (x := x) (hIw w1 hb) (by omega) hu hx
    have ht0 : Hid (∀ x ∈ l, 0 ≤ x.t ∧ x.t ≤ 200) := fun x hx => by
      obtain ⟨k, hk, e⟩ := List.getElem_of_mem hx
      have := h.1 k hk
      rw [th_get hk, e] at this
      omega
    have hl2 : Hid (l.length ≤ 200) := by show _ ≤ _; omega
    clear hIw h hu
    go_enter Try.func4, Try.ntmps4
    go_wp2_with (first
      | (go_at_call 13; refine (queues_any _).mono ?_; rintro e w1 ⟨rfl, hb1⟩)
      | (go_at_call 9; refine (hsort.out w1 hb1).mono ?_; rintro e w2 ⟨p2, c2, rfl, hr2, hb2⟩; clear hsort)
      | go_in)
    have b2 : Below w.heap.size w w2 := hb1.trans (hb2.mono hb1.size)
    have hw1 := hb1.size
    rw [show l.length = (srt l).length from (srt_len l).symm] at hr2
    have hRl : Hid ((srt l).length = l.length) := srt_len l
    have hRm : Hid (∀ k, k < (srt l).length → th (srt l) k ∈ l) := fun k hk => (srt_perm l).mem_iff.1 (th_mem hk)
    have hR2 : Hid (∀ j, j + 1 < (srt l).length → (th (srt l) (j + 1)).p ≤ (th (srt l) j).p ∧ ((th (srt l) j).p = (th (srt l) (j + 1)).p → (th (srt l) j).t < (th (srt l) (j + 1)).t)) := fun j hj => row_two htne.out hj
    clear hb1 hb2 htne
    have mixed : Try.prog.follows .mixedOrders = true := by kernel_rfl
    have hbb : Hid (w.heap.size ≤ w1.heap.size) := hw1
    generalize srt l = R at *
    go_loopw [27] (fun iv wr => ∃ j : Nat, iv = .int .i64 j ∧ j ≤ R.length ∧ wr.ownsRow w1.heap.size 30 2 (.slice p2 R.length c2) R.length (flatI R) ∧ Below w.heap.size w wr)
      (fun iv _ => l.length - (intOf iv).toNat)
    case atStart => exact ⟨0, rfl, Nat.zero_le _, hr2, b2⟩
    case round =>
      clear hr2 b2
      obtain ⟨j, rfl, hjl, hrow, hbl⟩ := hrel
      have hRl' := hRl.out
      by_cases hj : j < R.length
      · rcases hrow.2 with ⟨_, h0⟩ | ⟨g, cap', cur, hv, hrest⟩
        · omega
        obtain ⟨rfl, rfl⟩ : p2 = some ⟨g, 0, none⟩ ∧ c2 = cap' := by simpa using hv
        have hglt : Hid (g < wr.heap.size) := (Array.getElem?_eq_some_iff.1 hrest.2.1).1
        clear hrest hv
        have hji : (j : Int) < (l.length : Int) := by omega
        have z0 : wr.cell? ⟨g, j * 2, none⟩ = some (.int .i64 (th R j).p) := (hrow.cellAt (j * 2) (by omega)).trans (flatI_get hj).1
        have z1 : wr.cell? ⟨g, j * 2 + 1, none⟩ = some (.int .i64 (th R j).i) := (hrow.cellAt (j * 2 + 1) (by omega)).trans (flatI_get hj).2
        have hxm := hRm.out j hj
        have hbq : Below w.heap.size w (wr.alloc (.cells #[.int .i64 (th R j).p, .int .i64 (th R j).i] 30)) := hbl.alloc hbl.size _
        have hidx1 := hidx.out _ (th R j) hbq hxm
        have hj2 : Hid (j ≤ 100000) := by show _ ≤ _; have := hl2.out; omega
        have hx0 := (ht0.out _ hxm).1
        have hx1 : ¬ (th R j).t < 0 := by omega
        go_wp2_with (first
          | (go_at_call 14; refine hidx1.mono ?_; rintro e w3 ⟨rfl, hgr3⟩; clear hidx1)
          | go_in)
        have hbx := heap_alloc_new wr (.cells #[.int .i64 (th R j).p, .int .i64 (th R j).i] 30)
        have hrq := hrow.alloc (.cells #[.int .i64 (th R j).p, .int .i64 (th R j).i] 30)
        have hsq : wr.heap.size < (wr.alloc (.cells #[.int .i64 (th R j).p, .int .i64 (th R j).i] 30)).heap.size := by simp
        clear hrow hbl z0 z1
        generalize wr.alloc (.cells #[.int .i64 (th R j).p, .int .i64 (th R j).i] 30) = wq at *
        have hgx : Hid (g < wr.heap.size) := hglt.out
        generalize wr.heap.size = hb at *
        obtain ⟨q3, os3, e3⟩ := hgr3
        have b3 : Below wq.heap.size wq w3 := by rw [e3]; exact below_grow wq q3 os3
        clear e3
        have row3 := row_below hrq b3
        have bw3 : Below w.heap.size w w3 := hbq.trans (b3.mono hbq.size)
        have n0 : w3.cell? ⟨hb, 0, none⟩ = some (.int .i64 (th R j).p) := (b3.cell (p := ⟨hb, 0, none⟩) hsq).trans (box_facts hbx).2.1
        have hb3 : hb < w3.heap.size := Nat.lt_of_lt_of_le hsq b3.size
        have hg3 : g < w3.heap.size := Nat.lt_of_lt_of_le (Nat.lt_trans hgx.out hsq) b3.size
        have hn0 := cell_grown (a := ⟨hb, 0, none⟩) hb3 n0
        have row3' : Hid (w3.ownsRow w1.heap.size 30 2 (.slice (some ⟨g, 0, none⟩) R.length c2) R.length (flatI R)) := row3
        have bw3' : Hid (Below w.heap.size w w3) := bw3
        have hgo : Hid (∀ n os, Below w3.heap.size w3 (grow (w3.drewN n) os)) := fun n os => below_grow w3 n os
        by_cases hj0 : j = 0
        · subst hj0
          clear row3 bw3 b3 hrq hbq hbx n0
          generalize th R 0 = x at *
          have hd0 : decide (x.t < 0) = false := decide_eq_false (by omega)
          refine wp_region_quiet_grown mixed (by kernel_rfl) ?_
          repeat (go_big_quiet_step (fail))
          refine wpQuiet_nil ?_
          intro _ hw'
          obtain ⟨⟨nq, osq⟩, hw''⟩ := hw'
          subst hw''
          go_wp2
          refine ⟨⟨0 + 1, ?_, hj, row_below row3'.out (hgo.out _ _), bw3'.out.trans ((hgo.out _ _).mono bw3'.out.size)⟩, ?_⟩
          · first | exact int_succ 0 | exact int_wsucc hj2.out | rfl
          · simp [intOf]; omega
        · obtain ⟨m, rfl⟩ : ∃ m, j = m + 1 := ⟨j - 1, by omega⟩
          obtain ⟨hp1, hp2⟩ := hR2.out m hj
          have hym := hRm.out m (by omega)
          have y0 : w3.cell? ⟨g, m * 2, none⟩ = some (.int .i64 (th R m).p) := (row3.cellAt (m * 2) (by omega)).trans (flatI_get (by omega)).1
          have y1 : w3.cell? ⟨g, m * 2 + 1, none⟩ = some (.int .i64 (th R m).i) := (row3.cellAt (m * 2 + 1) (by omega)).trans (flatI_get (by omega)).2
          have hy0 := cell_grown (a := ⟨g, m * 2, none⟩) hg3 y0
          have hy1 := cell_grown (a := ⟨g, m * 2 + 1, none⟩) hg3 y1
          have hidx3 : ∀ n os, _ := fun n os => hidx.out (grow (w3.drewN n) os) (th R m) (bw3.trans ((below_grow w3 n os).mono bw3.size)) hym
          have hml : (m : Int) < (R.length : Int) := by omega
          have hm2 : (m : Int) ≤ 200 := by have := hl2.out; omega
          clear row3 bw3 b3 hrq hbq hbx n0 y0 y1
          generalize th R (m + 1) = x at *
          generalize th R m = y at *
          have hd0 : decide (x.t < 0) = false := decide_eq_false (by omega)
          have hd1 : decide (y.p < x.p) = false := decide_eq_false (by omega)
          have hd3 : decide ((0 : Int) < (m : Int) + 1) = true := decide_eq_true (by omega)
          by_cases hpe : y.p = x.p
          · have hlt := hp2 hpe
            have hd4 : decide (x.t ≤ y.t) = false := decide_eq_false (by omega)
            have hd2 : (y.p == x.p) = true := by simp [hpe]
            clear hp2 hpe hlt hp1
            refine wp_region_quiet_grown mixed (by kernel_rfl) ?_
            repeat (go_big_quiet_step (first | (go_at_call 14; refine Calls.grown_of (hidx3 _ _))))
            refine wpQuiet_nil ?_
            intro _ hw'
            obtain ⟨⟨nq, osq⟩, hw''⟩ := hw'
            subst hw''
            go_wp2
            refine ⟨⟨m + 1 + 1, by simp, hj, row_below row3'.out (hgo.out _ _), bw3'.out.trans ((hgo.out _ _).mono bw3'.out.size)⟩, ?_⟩
            simp [intOf]; omega
          · have hd2 : (y.p == x.p) = false := by simp [hpe]
            clear hp2 hp1 hpe
            refine wp_region_quiet_grown mixed (by kernel_rfl) ?_
            repeat (go_big_quiet_step (fail))
            refine wpQuiet_nil ?_
            intro _ hw'
            obtain ⟨⟨nq, osq⟩, hw''⟩ := hw'
            subst hw''
            go_wp2
            refine ⟨⟨m + 1 + 1, by simp, hj, row_below row3'.out (hgo.out _ _), bw3'.out.trans ((hgo.out _ _).mono bw3'.out.size)⟩, ?_⟩
            simp [intOf]; omega
      · have hji : ¬ (j : Int) < (l.length : Int) := by omega
        go_wp2
        go_ret
        exact ⟨rfl, hbl⟩
  · have hdup : Hid (∀ w1, Below w.heap.size w w1 → _) := fun w1 hb => sort_dup (cap := cap) (hIw w1 hb) (by omega) hu
    clear hIw h
    go_enter Try.func4, Try.ntmps4
    go_wp2_with (first
      | (go_at_call 13; refine (queues_any _).mono ?_; rintro e w1 ⟨rfl, hb1⟩)
      | (go_at_call 9; refine (hdup.out w1 hb1).mono ?_; rintro e w2 ⟨rfl, hb2⟩)
      | go_in)
    go_ret
    exact ⟨rfl, hb1.trans (hb2.mono hb1.size)⟩
end Go.Proofs.Ytjcnoidmakcfeaa
