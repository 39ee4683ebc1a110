/- QueueWhole, walked. -/
import Derived.Test.YthkhlgannimebaaQbm
import Derived.Test.YthkhlgannimebaaQli
import Derived.Test.YthkhlgannimebaaQua
import Derived.Test.YthkhlgannimebaaTkc
import Derived.Deep.QuietTactic
import Derived.BigQuiet
namespace Go.Proofs.Ythkhlgannimebaa
open Go.RowKit Go.Maps Go.Sort Qum
set_option linter.unusedSectionVars false

theorem putE_zero {S : Qu} {i : Int} (h : putE S i = 0) : hasId S.L i = false := by
  unfold putE at h
  split at h
  · cases h
  · rename_i hn; simpa using hn

theorem Wb.wf {w : World} {wm : Nat} {L : List Th} (h : Wb w wm L) {y : Th} (hy : y ∈ L) : (Lit.int .i64 y.i).wf = true := by
  obtain ⟨D, ⟨es, clock, hb, F, hs, rfl⟩, hr⟩ := h
  have hh := (hr.has (ky y.i)).2 ⟨y, hy, rfl⟩
  rw [Maps.has_eq, List.any_eq_true] at hh
  obtain ⟨p, hp, hk⟩ := hh
  have e := same_ky.1 hk
  obtain ⟨v, hv⟩ := Maps.fit_keys F p (mem_sorted.1 hp)
  obtain ⟨x, _, hx, hw⟩ := Maps.keyOf_int_inv Try.underlying3 hv
  rw [e] at hx
  have : y.i = x := by simpa [ky] using hx
  rw [this]
  exact hw

set_option maxHeartbeats 4000000 in
set_option maxRecDepth 100000 in
theorem queueWhole_walk (w : World) (q : Option Addr) (l : List Ac) (cap : Nat) (h : Acts w q l) :
    Calls Try.prog 5 #[.slice q l.length cap] w fun e w' => e = .returned (.bool true) ∧ Below w.heap.size w w' := by
  by_cases h150 : (150 : Int) < (l.length : Int)
  · clear h
    go_enter Try.func5, Try.ntmps5
    go_wp2_with (go_at_call 13; refine (queues_any _).mono ?_; rintro e w1 ⟨rfl, hb1⟩)
    go_ret
    exact ⟨rfl, hb1⟩
  have hmm := @run_makeMap Try.prog
  go_enter Try.func5, Try.ntmps5
  go_wp2_with (first
    | (go_at_call 13; refine (queues_any _).mono ?_; rintro e w1 ⟨rfl, hb1⟩)
    | (go_at_call 15; refine (new_any _).mono ?_; rintro e w2 ⟨rfl, hQ2, hb2⟩))
  have hs1 := hb1.size
  have hs2 := hb2.size
  have hlt2 := hQ2.ltm
  have hQ3 := hQ2.below ((Below.refl w2.heap.size w2).alloc (Nat.le_refl _) (.map #[] 0))
  have hT3 : Wb (w2.alloc (.map #[] 0)) w2.heap.size [] := ⟨.map [], World.ownsMap_made w2 Try.prog 3 boElem, Rb.empty⟩
  have hB3 : Below w.heap.size w (w2.alloc (.map #[] 0)) := (hb1.trans (hb2.mono hs1)).alloc (by omega) _
  have hd : Hid (w.heap.size ≤ w1.heap.size ∧ w2.heap.size ≠ w1.heap.size ∧ w.heap.size ≤ w2.heap.size) := by
    show _ ∧ _
    omega
  clear hs1 hs2 hb1 hb2 hQ2 hlt2 hmm
  generalize (w2.alloc (.map #[] 0)) = w3 at *
  generalize w1.heap.size + 1 = qb at *
  obtain ⟨B, hBe⟩ : ∃ B, B = w1.heap.size := ⟨_, rfl⟩
  obtain ⟨bm, hbm⟩ : ∃ bm, bm = w1.heap.size := ⟨_, rfl⟩
  have hQ3' : Que B w3 qb bm ⟨0, []⟩ := by rw [hBe, hbm]; exact hQ3
  have hd' : Hid (w.heap.size ≤ B ∧ w2.heap.size ≠ bm ∧ w.heap.size ≤ w2.heap.size) := by rw [hBe, hbm]; exact hd
  clear hbm hBe hd hQ3
  generalize w2.heap.size = wm at *
  go_loopw [19] (fun iv wr => ∃ (j : Nat) (S : Qu), iv = .int .i64 j ∧ j ≤ l.length ∧ Ok j S ∧ Que B wr qb bm S ∧ Wb wr wm S.L ∧ Below w.heap.size w wr)
    (fun iv _ => l.length - (intOf iv).toNat)
  case atStart => exact ⟨0, _, rfl, Nat.zero_le _, Ok.new 0, hQ3', hT3, hB3⟩
  case round =>
    clear hQ3' hT3 hB3
    obtain ⟨j, S, rfl, hjl, hO, hQ, hT, hbl⟩ := hrel
    obtain ⟨d1, d2, d3⟩ := hd'.out
    by_cases hj : j < l.length
    · rcases h with h | ⟨b, o, rfl, hA⟩
      · omega
      have hji : (j : Int) < (l.length : Int) := by omega
      have hj2 : Hid (j < 150) := by show _ < _; omega
      have z0 : wr.cell? ⟨b, o + j * 4, none⟩ = some (.int .i64 (ac l j).k) := (hbl.cell (p := ⟨b, o + j * 4, none⟩) hA.lt).trans (hA.ck j hj)
      have z1 : wr.cell? ⟨b, o + j * 4 + 1, none⟩ = some (.int .i64 (ac l j).i) := (hbl.cell (p := ⟨b, o + j * 4 + 1, none⟩) hA.lt).trans (hA.ci j hj)
      have z2 : wr.cell? ⟨b, o + j * 4 + 2, none⟩ = some (.int .i64 (ac l j).p) := (hbl.cell (p := ⟨b, o + j * 4 + 2, none⟩) hA.lt).trans (hA.cp j hj)
      have z3 : wr.cell? ⟨b, o + j * 4 + 3, none⟩ = some (.int .i64 (ac l j).a) := (hbl.cell (p := ⟨b, o + j * 4 + 3, none⟩) hA.lt).trans (hA.ca j hj)
      have wi : Hid ((Lit.int .i64 (ac l j).i).wf = true) := hA.wi j hj
      clear hA
      generalize ac l j = x at *
      have hmx : Hid (S.L.length < maxLen) := by show _ < _; have := hO.len; unfold maxLen; omega
      have d5 : wr.heap.size ≠ bm := by have := hQ.ltm; omega
      by_cases hk1 : x.k = 1
      · go_wp2_with fail
        have hQq := hQ.below ((Below.refl wr.heap.size wr).alloc (Nat.le_refl _) (Obj.cells #[.int .i64 1, .int .i64 x.i, .int .i64 x.p, .int .i64 x.a] 42))
        have hTq := hT.alloc (Obj.cells #[.int .i64 1, .int .i64 x.i, .int .i64 x.p, .int .i64 x.a] 42)
        have hbq : Below w.heap.size w (wr.alloc (Obj.cells #[.int .i64 1, .int .i64 x.i, .int .i64 x.p, .int .i64 x.a] 42)) := hbl.alloc hbl.size _
        have hn := heap_alloc_new wr (Obj.cells #[.int .i64 1, .int .i64 x.i, .int .i64 x.p, .int .i64 x.a] 42)
        clear hQ hbl hT z0 z1 z2 z3
        generalize wr.alloc (Obj.cells #[.int .i64 1, .int .i64 x.i, .int .i64 x.p, .int .i64 x.a] 42) = wq at *
        have htb : Hid (tagd wq wr.heap.size = false) := by show _ = _; simp [tagd, hn]
        generalize wr.heap.size = hb at *
        have n1 : wq.cell? ⟨hb, 1, none⟩ = some (.int .i64 x.i) := (cell_of_row _ _ 1 _ _ _ hn).trans rfl
        have n2 : wq.cell? ⟨hb, 2, none⟩ = some (.int .i64 x.p) := (cell_of_row _ _ 2 _ _ _ hn).trans rfl
        clear hn
        have hput := put_any (p := x.p) (id := x.i) hQq hO (by have := hj2.out; omega) wi.out
        have hO3 := hO.put x.p x.i
        by_cases he : putE S x.i = 0
        · obtain ⟨S3, hS3⟩ : ∃ S3, S3 = putS S x.p x.i := ⟨_, rfl⟩
          have hSL : Hid (S3.L = S.L ++ [⟨x.p, x.i, S.turns⟩]) := by show _ = _; rw [hS3]; simp [putS, he]
          rw [he, ← hS3] at hput
          rw [← hS3] at hO3
          have hno : Hid (∀ y ∈ S.L, y.i ≠ x.i) := hasId_false (putE_zero he)
          clear he hS3
          refine hput.mono ?_
          rintro e w4 ⟨rfl, hQ4, hF4⟩
          have hT4 := hTq.fq hF4 d2
          have m1 := fq_cell hF4 n1 (fun e => d5 (by cases e; rfl)) htb.out
          obtain ⟨D4, hown4, hr4⟩ := hT4
          have hr4' : Hid (Rb D4 S.L) := hr4
          have hB4 : Below w.heap.size w w4 := hbq.trans (hF4.below.mono d1)
          clear hput n1 n2 hr4
          have hQ4' : Hid (Que B w4 qb bm S3) := hQ4
          go_wp2_with (at_mapUpdate; refine wpList_mapUpdate_in _ rfl _ _ _ 40 rfl 3 4 lawK Try.underlying40 boElem wm _ D4 rfl hown4 hmx.out _ _ _ rfl rfl (keyOf_int_mk Try.underlying3 wi.out) dT [] rfl ?_; intro w3 hown3 hturn3; go_frame)
          have hT3 : Wb w3 wm S3.L := by rw [hSL.out]; exact Wb_of hown3 (hr4'.out.put ⟨x.p, x.i, S.turns⟩ hno.out)
          have hQ3 : Que B w3 qb bm S3 := hQ4'.out.own (fun k hk ht => hturn3.grown.block k hk (fun e => by cases e; rw [Wb.tag ⟨D4, hown4, hr4'.out⟩] at ht; cases ht)) (hturn3.grown.block bm hQ4'.out.ltm (fun e => d2 (by cases e; rfl)))
          have hB3 : Below w.heap.size w w3 := hB4.grown hturn3.grown hB4.size (fun k hk => by cases hk; exact d3)
          clear hown3 hturn3 hown4 hQ4 hQ4' hF4 hTq m1 hSL hr4' hB4
          have hlist := list_any hQ3 hO3
          have hT3' : Hid (Wb w3 wm S3.L) := hT3
          clear hT3
          go_wp2_with (first
            | (go_at_call 19; refine hlist.mono ?_; rintro e w5 ⟨p5, c5, rfl, _, hb5⟩; obtain ⟨D5, hown5, hr5⟩ := hT3'.out.below hb5 hT3'.out.lt; have hsz5 : (Maps.size D5 : Int) = (S3.L.length : Int) := by rw [hr5.size])
            | (at_len; refine wpList_len_own _ rfl _ 40 rfl 3 4 Try.underlying40 boElem wm _ D5 rfl hown5 ?_)
            | go_in)
          exact ⟨⟨j + 1, S3, int_succ j, hj, hO3, hQ3.below hb5, ⟨D5, hown5, hr5⟩, hB3.trans (hb5.mono hB3.size)⟩, meas_1 hj⟩
        · have hS3 : putS S x.p x.i = S := by simp [putS, he]
          rw [hS3] at hput hO3
          clear hS3
          generalize putE S x.i = ev at *
          refine hput.mono ?_
          rintro e w3 ⟨rfl, hQ3, hF3⟩
          have hT3 := hTq.fq hF3 d2
          have hB3 : Below w.heap.size w w3 := hbq.trans (hF3.below.mono d1)
          obtain ⟨S3, rfl⟩ : ∃ S3, S3 = S := ⟨_, rfl⟩
          clear hput n1 n2
          have hlist := list_any hQ3 hO3
          have hT3' : Hid (Wb w3 wm S3.L) := hT3
          clear hT3
          go_wp2_with (first
            | (go_at_call 19; refine hlist.mono ?_; rintro e w5 ⟨p5, c5, rfl, _, hb5⟩; obtain ⟨D5, hown5, hr5⟩ := hT3'.out.below hb5 hT3'.out.lt; have hsz5 : (Maps.size D5 : Int) = (S3.L.length : Int) := by rw [hr5.size])
            | (at_len; refine wpList_len_own _ rfl _ 40 rfl 3 4 Try.underlying40 boElem wm _ D5 rfl hown5 ?_)
            | go_in)
          exact ⟨⟨j + 1, S3, int_succ j, hj, hO3, hQ3.below hb5, ⟨D5, hown5, hr5⟩, hB3.trans (hb5.mono hB3.size)⟩, meas_1 hj⟩
      by_cases hk2 : x.k = 2
      · go_wp2_with fail
        have hQq := hQ.below ((Below.refl wr.heap.size wr).alloc (Nat.le_refl _) (Obj.cells #[.int .i64 2, .int .i64 x.i, .int .i64 x.p, .int .i64 x.a] 42))
        have hTq := hT.alloc (Obj.cells #[.int .i64 2, .int .i64 x.i, .int .i64 x.p, .int .i64 x.a] 42)
        have hbq : Below w.heap.size w (wr.alloc (Obj.cells #[.int .i64 2, .int .i64 x.i, .int .i64 x.p, .int .i64 x.a] 42)) := hbl.alloc hbl.size _
        have hn := heap_alloc_new wr (Obj.cells #[.int .i64 2, .int .i64 x.i, .int .i64 x.p, .int .i64 x.a] 42)
        clear hQ hbl hT z0 z1 z2 z3
        generalize wr.alloc (Obj.cells #[.int .i64 2, .int .i64 x.i, .int .i64 x.p, .int .i64 x.a] 42) = wq at *
        have htb : Hid (tagd wq wr.heap.size = false) := by show _ = _; simp [tagd, hn]
        generalize wr.heap.size = hb at *
        have n1 : wq.cell? ⟨hb, 1, none⟩ = some (.int .i64 x.i) := (cell_of_row _ _ 1 _ _ _ hn).trans rfl
        have n2 : wq.cell? ⟨hb, 2, none⟩ = some (.int .i64 x.p) := (cell_of_row _ _ 2 _ _ _ hn).trans rfl
        clear hn
        obtain ⟨S3, hS3⟩ : ∃ S3, S3 = drpS S x.i := ⟨_, rfl⟩
        have hSL : Hid (S3.L = dropId S.L x.i) := by show _ = _; rw [hS3]; rfl
        have hO3 : Ok (j + 1) S3 := by rw [hS3]; exact (hO.drp x.i).mono (by omega)
        obtain ⟨hid, hhid⟩ : ∃ hid, hid = hasId S.L x.i := ⟨_, rfl⟩
        have hde : drpE S x.i = if hid = true then 0 else 5 := by rw [hhid]; rfl
        have hcq : wq.drew.cell? ⟨hb, 1, none⟩ = some (.int .i64 x.i) ∧ (Instr.lookup 40 (.map (some wm)) (.int .i64 x.i) false).run Try.prog wq.drew = .ok (.bool hid) wq.drew := ⟨n1, by rw [hhid]; exact Wb.look (w := wq.drew) (hTq.kept rfl) wi.out⟩
        have hTd : Wb wq.drew wm S.L := hTq.kept rfl
        have hQd : Que B wq.drew qb bm S := hQq.own (fun _ _ _ => rfl) rfl
        have hbd : Below w.heap.size w wq.drew := hbq.drew
        have htd : Hid (tagd wq.drew hb = false) := htb
        have hhid' : Hid (hid = hasId S.L x.i) := hhid
        clear n1 n2 hTq hQq hbq htb hhid
        have hdrop := drop_any (id := x.i) hQd hO wi.out
        rw [hde, ← hS3] at hdrop
        clear hS3 hde
        refine Tkc.region_anyC (C := fun w' => w'.cell? ⟨hb, 1, none⟩ = some (.int .i64 x.i) ∧ (Instr.lookup 40 (.map (some wm)) (.int .i64 x.i) false).run Try.prog w' = .ok (.bool hid) w') (s := 10) (by kernel_rfl) ?_
        refine Tkc.takeC (i := 0) (v := .pointer (some ⟨qb, 0, none⟩)) rfl (by kernel_rfl) (by kernel_rfl) (by kernel_rfl) (fun _ _ _ h => h) (by decide) (by kernel_rfl) (by kernel_rfl) hcq ⟨by rfl, fun w hw => by have hc1 : w.cell? ⟨hb, 1, none⟩ = some (.int .i64 x.i) := hw.1; have hlk : (Instr.lookup 40 (.map (some wm)) (.int .i64 x.i) false).run Try.prog w = .ok (.bool hid) w := hw.2; go_simp⟩ ?_
        go_frame
        refine Tkc.takeC (i := 1) (v := .pointer (some ⟨hb, 1, none⟩)) rfl (by kernel_rfl) (by kernel_rfl) (by kernel_rfl) (fun _ _ _ h => h) (by decide) (by kernel_rfl) (by kernel_rfl) hcq ⟨by rfl, fun w hw => by have hc1 : w.cell? ⟨hb, 1, none⟩ = some (.int .i64 x.i) := hw.1; have hlk : (Instr.lookup 40 (.map (some wm)) (.int .i64 x.i) false).run Try.prog w = .ok (.bool hid) w := hw.2; go_simp⟩ ?_
        go_frame
        refine Tkc.takeC (i := 2) (v := .int .i64 x.i) rfl (by kernel_rfl) (by kernel_rfl) (by kernel_rfl) (fun _ _ _ h => h) (by decide) (by kernel_rfl) (by kernel_rfl) hcq ⟨by rfl, fun w hw => by have hc1 : w.cell? ⟨hb, 1, none⟩ = some (.int .i64 x.i) := hw.1; have hlk : (Instr.lookup 40 (.map (some wm)) (.int .i64 x.i) false).run Try.prog w = .ok (.bool hid) w := hw.2; go_simp⟩ ?_
        go_frame
        refine Tkc.takeC (i := 5) (v := .map (some wm)) rfl (by kernel_rfl) (by kernel_rfl) (by kernel_rfl) (fun _ _ _ h => h) (by decide) (by kernel_rfl) (by kernel_rfl) hcq ⟨by rfl, fun w hw => by have hc1 : w.cell? ⟨hb, 1, none⟩ = some (.int .i64 x.i) := hw.1; have hlk : (Instr.lookup 40 (.map (some wm)) (.int .i64 x.i) false).run Try.prog w = .ok (.bool hid) w := hw.2; go_simp⟩ ?_
        go_frame
        refine Tkc.takeC (i := 6) (v := .pointer (some ⟨hb, 1, none⟩)) rfl (by kernel_rfl) (by kernel_rfl) (by kernel_rfl) (fun _ _ _ h => h) (by decide) (by kernel_rfl) (by kernel_rfl) hcq ⟨by rfl, fun w hw => by have hc1 : w.cell? ⟨hb, 1, none⟩ = some (.int .i64 x.i) := hw.1; have hlk : (Instr.lookup 40 (.map (some wm)) (.int .i64 x.i) false).run Try.prog w = .ok (.bool hid) w := hw.2; go_simp⟩ ?_
        go_frame
        refine Tkc.takeC (i := 7) (v := .int .i64 x.i) rfl (by kernel_rfl) (by kernel_rfl) (by kernel_rfl) (fun _ _ _ h => h) (by decide) (by kernel_rfl) (by kernel_rfl) hcq ⟨by rfl, fun w hw => by have hc1 : w.cell? ⟨hb, 1, none⟩ = some (.int .i64 x.i) := hw.1; have hlk : (Instr.lookup 40 (.map (some wm)) (.int .i64 x.i) false).run Try.prog w = .ok (.bool hid) w := hw.2; go_simp⟩ ?_
        go_frame
        refine Tkc.takeC (i := 8) (v := .bool hid) rfl (by kernel_rfl) (by kernel_rfl) (by kernel_rfl) (fun _ _ _ h => h) (by decide) (by kernel_rfl) (by kernel_rfl) hcq ⟨by rfl, fun w hw => by have hc1 : w.cell? ⟨hb, 1, none⟩ = some (.int .i64 x.i) := hw.1; have hlk : (Instr.lookup 40 (.map (some wm)) (.int .i64 x.i) false).run Try.prog w = .ok (.bool hid) w := hw.2; go_simp⟩ ?_
        go_frame
        generalize wq.drew = wd at *
        refine Tkc.onlyC (i := 3) rfl (by kernel_rfl) (fun _ => hcq) (by rfl) (fun K hK => ?_)
        go_simp
        refine hdrop.mono ?_
        rintro e w4 ⟨rfl, hQ4, hF4⟩
        refine hK _ _ ?_
        clear hK K
        have hT4 := hTd.fq hF4 d2
        have m1 := fq_cell hF4 hcq.1 (fun e => d5 (by cases e; rfl)) htd.out
        have hc4 : w4.cell? ⟨hb, 1, none⟩ = some (.int .i64 x.i) ∧ (Instr.lookup 40 (.map (some wm)) (.int .i64 x.i) false).run Try.prog w4 = .ok (.bool hid) w4 := ⟨m1, by rw [hhid'.out]; exact hT4.look wi.out⟩
        have hB4 : Below w.heap.size w w4 := hbd.trans (hF4.below.mono d1)
        obtain ⟨D4, hown4, hr4⟩ := hT4
        have hr4' : Hid (Rb D4 S.L) := hr4
        have hQ4' : Hid (Que B w4 qb bm S3) := hQ4
        clear hr4 hQ4 hdrop hQd hTd hbd hF4 hcq
        cases hid
        all_goals
          try go_frame
          refine Tkc.onlyC (i := 4) rfl (by kernel_rfl) (fun _ => hc4) (by rfl) (fun K hK => ?_)
          go_simp
          refine hK _ _ ?_
          clear hK K
          try go_frame
          refine Tkc.onlyC (i := 9) rfl (by kernel_rfl) (fun _ => hc4) (by rfl) (fun K hK => ?_)
          go_simp
          refine hK _ _ ?_
          clear hK K
          refine Tkc.doneC (by kernel_rfl) (fun _ => hc4) ?_
          go_wp2_with (at_delete; refine wpList_delete_own _ rfl _ _ 40 3 rfl 4 lawK Try.underlying40 boElem wm _ D4 rfl hown4 _ _ rfl (keyOf_int_mk Try.underlying3 wi.out) ?_; intro w3 hown3 hturn3; go_frame)
          have hT3 : Wb w3 wm S3.L := by rw [hSL.out]; exact Wb_of hown3 (hr4'.out.del x.i)
          have hQ3 : Que B w3 qb bm S3 := hQ4'.out.own (fun k hk ht => hturn3.grown.block k hk (fun e => by cases e; rw [Wb.tag ⟨D4, hown4, hr4'.out⟩] at ht; cases ht)) (hturn3.grown.block bm hQ4'.out.ltm (fun e => d2 (by cases e; rfl)))
          have hB3 : Below w.heap.size w w3 := hB4.grown hturn3.grown hB4.size (fun k hk => by cases hk; exact d3)
          clear hown3 hturn3 hown4 hQ4' m1 hc4 hSL hr4' hB4
          have hlist := list_any hQ3 hO3
          have hT3' : Hid (Wb w3 wm S3.L) := hT3
          clear hT3
          go_wp2_with (first
            | (go_at_call 19; refine hlist.mono ?_; rintro e w5 ⟨p5, c5, rfl, _, hb5⟩; obtain ⟨D5, hown5, hr5⟩ := hT3'.out.below hb5 hT3'.out.lt; have hsz5 : (Maps.size D5 : Int) = (S3.L.length : Int) := by rw [hr5.size])
            | (at_len; refine wpList_len_own _ rfl _ 40 rfl 3 4 Try.underlying40 boElem wm _ D5 rfl hown5 ?_)
            | go_in)
          exact ⟨⟨j + 1, S3, int_succ j, hj, hO3, hQ3.below hb5, ⟨D5, hown5, hr5⟩, hB3.trans (hb5.mono hB3.size)⟩, meas_1 hj⟩
      by_cases hk4 : x.k = 4
      · go_wp2_with fail
        have hQq := hQ.below ((Below.refl wr.heap.size wr).alloc (Nat.le_refl _) (Obj.cells #[.int .i64 4, .int .i64 x.i, .int .i64 x.p, .int .i64 x.a] 42))
        have hTq := hT.alloc (Obj.cells #[.int .i64 4, .int .i64 x.i, .int .i64 x.p, .int .i64 x.a] 42)
        have hbq : Below w.heap.size w (wr.alloc (Obj.cells #[.int .i64 4, .int .i64 x.i, .int .i64 x.p, .int .i64 x.a] 42)) := hbl.alloc hbl.size _
        have hn := heap_alloc_new wr (Obj.cells #[.int .i64 4, .int .i64 x.i, .int .i64 x.p, .int .i64 x.a] 42)
        clear hQ hbl hT z0 z1 z2 z3
        generalize wr.alloc (Obj.cells #[.int .i64 4, .int .i64 x.i, .int .i64 x.p, .int .i64 x.a] 42) = wq at *
        have htb : Hid (tagd wq wr.heap.size = false) := by show _ = _; simp [tagd, hn]
        generalize wr.heap.size = hb at *
        have n1 : wq.cell? ⟨hb, 1, none⟩ = some (.int .i64 x.i) := (cell_of_row _ _ 1 _ _ _ hn).trans rfl
        have n2 : wq.cell? ⟨hb, 2, none⟩ = some (.int .i64 x.p) := (cell_of_row _ _ 2 _ _ _ hn).trans rfl
        clear hn
        have hrai := raise_any (id := x.i) (p := x.p) hQq hO wi.out
        have hO3 : Ok (j + 1) (raiS S x.i x.p) := (hO.rai x.i x.p).mono (by omega)
        have hT4 : Hid (∀ w3, Wb w3 wm S.L → Wb w3 wm (raiS S x.i x.p).L) := fun w3 h3 => by
          unfold raiS
          split
          · obtain ⟨D, ho, hr⟩ := h3
            exact Wb_of ho (hr.raised x.i x.p)
          · exact h3
        generalize raiS S x.i x.p = S3 at *
        generalize raiE S x.i x.p = ev at *
        go_wp2_with (go_at_call 18; refine hrai.mono ?_; rintro e w3 ⟨rfl, hQ3, hF3⟩; clear hrai)
        have hT3 : Wb w3 wm S3.L := hT4.out w3 (hTq.fq hF3 d2)
        have hB3 : Below w.heap.size w w3 := hbq.trans (hF3.below.mono d1)
        clear n1 n2 hTq hF3 hT4
        have hlist := list_any hQ3 hO3
        have hT3' : Hid (Wb w3 wm S3.L) := hT3
        clear hT3
        go_wp2_with (first
          | (go_at_call 19; refine hlist.mono ?_; rintro e w5 ⟨p5, c5, rfl, _, hb5⟩; obtain ⟨D5, hown5, hr5⟩ := hT3'.out.below hb5 hT3'.out.lt; have hsz5 : (Maps.size D5 : Int) = (S3.L.length : Int) := by rw [hr5.size])
          | (at_len; refine wpList_len_own _ rfl _ 40 rfl 3 4 Try.underlying40 boElem wm _ D5 rfl hown5 ?_)
          | go_in)
        exact ⟨⟨j + 1, S3, int_succ j, hj, hO3, hQ3.below hb5, ⟨D5, hown5, hr5⟩, hB3.trans (hb5.mono hB3.size)⟩, meas_1 hj⟩
      go_wp2_with fail
      have hQq := hQ.below ((Below.refl wr.heap.size wr).alloc (Nat.le_refl _) (Obj.cells #[.int .i64 x.k, .int .i64 x.i, .int .i64 x.p, .int .i64 x.a] 42))
      have hTq := hT.alloc (Obj.cells #[.int .i64 x.k, .int .i64 x.i, .int .i64 x.p, .int .i64 x.a] 42)
      have hbq : Below w.heap.size w (wr.alloc (Obj.cells #[.int .i64 x.k, .int .i64 x.i, .int .i64 x.p, .int .i64 x.a] 42)) := hbl.alloc hbl.size _
      have hn := heap_alloc_new wr (Obj.cells #[.int .i64 x.k, .int .i64 x.i, .int .i64 x.p, .int .i64 x.a] 42)
      clear hQ hbl hT z0 z1 z2 z3
      generalize wr.alloc (Obj.cells #[.int .i64 x.k, .int .i64 x.i, .int .i64 x.p, .int .i64 x.a] 42) = wq at *
      have htb : Hid (tagd wq wr.heap.size = false) := by show _ = _; simp [tagd, hn]
      generalize wr.heap.size = hb at *
      have n1 : wq.cell? ⟨hb, 1, none⟩ = some (.int .i64 x.i) := (cell_of_row _ _ 1 _ _ _ hn).trans rfl
      have n2 : wq.cell? ⟨hb, 2, none⟩ = some (.int .i64 x.p) := (cell_of_row _ _ 2 _ _ _ hn).trans rfl
      clear hn
      clear n1 n2
      have hlist := list_any hQq hO
      by_cases h0 : S.L = []
      · have hl0 : S.L.length = 0 := by rw [h0]; rfl
        rw [hl0] at hlist
        refine hlist.mono ?_
        rintro e w4 ⟨p4, c4, rfl, _, hb4⟩
        have htake := take_none (hQq.below hb4) h0
        have hQ4 := hQq.below hb4
        have hT4 := hTq.below hb4 hTq.lt
        have hB4 : Below w.heap.size w w4 := hbq.trans (hb4.mono hbq.size)
        clear hlist
        go_wp2_with (go_at_call 20; refine htake.mono ?_; rintro e w5 ⟨rfl, hb5⟩; clear htake)
        have hQ6 := (hQ4.below hb5).below ((Below.refl w5.heap.size w5).alloc (Nat.le_refl _) (.cells #[.int .i64 0, .int .i64 0] 30))
        have hT6 := (hT4.below hb5 hT4.lt).alloc (.cells #[.int .i64 0, .int .i64 0] 30)
        have hB5 : Below w.heap.size w w5 := hB4.trans (hb5.mono hB4.size)
        have hB6 : Below w.heap.size w (w5.alloc (.cells #[.int .i64 0, .int .i64 0] 30)) := hB5.alloc hB5.size _
        clear hQ4 hT4 hB4 hB5 hQq hTq hbq
        generalize w5.alloc (.cells #[.int .i64 0, .int .i64 0] 30) = w6 at *
        go_quiet (fail)
        have hQ3 : Que B (w6.drewN nq) qb bm S := hQ6.own (fun _ _ _ => rfl) rfl
        have hT3 : Wb (w6.drewN nq) wm S.L := hT6.kept rfl
        have hB3 : Below w.heap.size w (w6.drewN nq) := drewN_below hB6 nq
        have hO3 : Ok (j + 1) S := hO.mono (by omega)
        generalize w6.drewN nq = w3 at *
        obtain ⟨S3, rfl⟩ : ∃ S3, S3 = S := ⟨_, rfl⟩
        have hlist := list_any hQ3 hO3
        have hT3' : Hid (Wb w3 wm S3.L) := hT3
        clear hT3
        go_wp2_with (first
          | (go_at_call 19; refine hlist.mono ?_; rintro e w5 ⟨p5, c5, rfl, _, hb5⟩; obtain ⟨D5, hown5, hr5⟩ := hT3'.out.below hb5 hT3'.out.lt; have hsz5 : (Maps.size D5 : Int) = (S3.L.length : Int) := by rw [hr5.size])
          | (at_len; refine wpList_len_own _ rfl _ 40 rfl 3 4 Try.underlying40 boElem wm _ D5 rfl hown5 ?_)
          | go_in)
        exact ⟨⟨j + 1, S3, int_succ j, hj, hO3, hQ3.below hb5, ⟨D5, hown5, hr5⟩, hB3.trans (hb5.mono hB3.size)⟩, meas_1 hj⟩
      · have hlp : (0 : Int) < (S.L.length : Int) := by
          cases hL : S.L with
          | nil => exact absurd hL h0
          | cons a r => simp
        have hlpH : Hid (0 < S.L.length) := by show _ < _; omega
        refine hlist.mono ?_
        rintro e w4 ⟨p4, c4, rfl, hr4, hb4⟩
        have htake := take_some (hQq.below hb4) hO h0
        have hT4 := hTq.below hb4 hTq.lt
        have hB4 : Below w.heap.size w w4 := hbq.trans (hb4.mono hbq.size)
        have hrt : Hid (∀ k, Value.ownBlock (.slice p4 S.L.length c4) = some k → tagd w4 k = false ∧ k ≠ bm) := fun k hk => by
          refine ⟨?_, fun e => ?_⟩
          · rcases hr4.2 with ⟨hv, _⟩ | ⟨g, c', cur, hv, _, hg, _⟩
            · rw [hv] at hk; simp [Value.ownBlock] at hk
            · rw [hv] at hk
              obtain rfl : g = k := by simpa [Value.ownBlock] using hk
              simp [tagd, hg]
          · have := (hr4.lt k hk).1
            have := hQq.ltm
            omega
        clear hlist
        go_wp2_with (go_at_call 20; refine htake.mono ?_; rintro e w5 ⟨y, rfl, hsy, hQ5, hF5⟩; clear htake)
        have hT5 := hT4.fq hF5 d2
        have hB5 : Below w.heap.size w w5 := hB4.trans (hF5.below.mono d1)
        have hr5 : w5.ownsRow wq.heap.size 30 2 (.slice p4 S.L.length c4) S.L.length (flatI (srt S.L)) := by
          refine ⟨hr4.1, hr4.2.imp id ?_⟩
          rintro ⟨g, c', cur, hv, hbb, hg, r⟩
          have := hrt.out g (by rw [hv]; rfl)
          exact ⟨g, c', cur, hv, hbb, (hF5.oth g (Array.getElem?_eq_some_iff.1 hg).1 (fun e => this.2 (by cases e; rfl)) this.1).trans hg, r⟩
        have hyL : y ∈ S.L := (srt_perm S.L).mem_iff.1 (by rw [hsy]; exact List.mem_cons_self)
        have hyi : hasId S.L y.i = true := hasId_of hyL
        have wy : Hid ((Lit.int .i64 y.i).wf = true) := hT5.wf hyL
        have hr6 := row_below hr5 ((Below.refl w5.heap.size w5).alloc (Nat.le_refl _) (.cells #[.int .i64 y.p, .int .i64 y.i] 30))
        have hQ6 := hQ5.below ((Below.refl w5.heap.size w5).alloc (Nat.le_refl _) (.cells #[.int .i64 y.p, .int .i64 y.i] 30))
        have hT6 := hT5.alloc (.cells #[.int .i64 y.p, .int .i64 y.i] 30)
        have hB6 : Below w.heap.size w (w5.alloc (.cells #[.int .i64 y.p, .int .i64 y.i] 30)) := hB5.alloc hB5.size _
        have hn6 := heap_alloc_new w5 (.cells #[.int .i64 y.p, .int .i64 y.i] 30)
        have hlk := Wb.look hT6 wy.out
        rw [hyi] at hlk
        rcases hr6.2 with ⟨_, h1⟩ | ⟨g, c', cur, hv, _⟩
        · exact absurd h1 (by have := hlpH.out; omega)
        obtain ⟨rfl, rfl⟩ : p4 = some ⟨g, 0, none⟩ ∧ c4 = c' := by simpa using hv
        have z0 : (w5.alloc (.cells #[.int .i64 y.p, .int .i64 y.i] 30)).cell? ⟨g, 0, none⟩ = some (.int .i64 y.p) := by
          rw [hr6.cellAt 0 (by have := hlpH.out; omega), hsy]; rfl
        have z1 : (w5.alloc (.cells #[.int .i64 y.p, .int .i64 y.i] 30)).cell? ⟨g, 1, none⟩ = some (.int .i64 y.i) := by
          rw [hr6.cellAt 1 (by have := hlpH.out; omega), hsy]; rfl
        have hlkN : ∀ q, (Instr.lookup 40 (.map (some wm)) (.int .i64 y.i) false).run Try.prog ((w5.alloc (.cells #[.int .i64 y.p, .int .i64 y.i] 30)).drewN q) = .ok (.bool true) ((w5.alloc (.cells #[.int .i64 y.p, .int .i64 y.i] 30)).drewN q) := fun q => by
          have := Wb.look (w := (w5.alloc (.cells #[.int .i64 y.p, .int .i64 y.i] 30)).drewN q) (hT6.kept rfl) wy.out
          rw [hyi] at this
          exact this
        clear hr6 hr5 hr4 hv hQ5 hT5 hB5 hT4 hB4 hF5 hsy hyi hyL hlk hTq hbq hQq
        generalize w5.alloc (.cells #[.int .i64 y.p, .int .i64 y.i] 30) = w6 at *
        generalize w5.heap.size = hy at *
        have k0 : w6.cell? ⟨hy, 0, none⟩ = some (.int .i64 y.p) := (cell_of_row _ _ 0 _ _ _ hn6).trans rfl
        have k1 : w6.cell? ⟨hy, 1, none⟩ = some (.int .i64 y.i) := (cell_of_row _ _ 1 _ _ _ hn6).trans rfl
        have hnf := neqI
        have hdp : decide (0 < S.L.length) = true := by simpa using hlpH.out
        clear hn6
        go_quiet (fail)
        clear hlkN z0 z1 hnf
        have hO3 : Ok (j + 1) (drpS S y.i) := (hO.drp y.i).mono (by omega)
        have hQ7 : Que B (w6.drewN nq) qb bm (drpS S y.i) := hQ6.own (fun _ _ _ => rfl) rfl
        have hT7 : Wb (w6.drewN nq) wm S.L := hT6.kept rfl
        have hB7 : Below w.heap.size w (w6.drewN nq) := drewN_below hB6 nq
        have kk1 : (w6.drewN nq).cell? ⟨hy, 1, none⟩ = some (.int .i64 y.i) := k1
        obtain ⟨S3, hS3⟩ : ∃ S3, S3 = drpS S y.i := ⟨_, rfl⟩
        have hSL : Hid (S3.L = dropId S.L y.i) := by show _ = _; rw [hS3]; rfl
        rw [← hS3] at hO3 hQ7
        clear hS3 hQ6 hT6 hB6 k0 k1
        generalize w6.drewN nq = w7 at *
        obtain ⟨D7, hown7, hr7⟩ := hT7
        have hr7' : Hid (Rb D7 S.L) := hr7
        clear hr7
        go_wp2_with (at_delete; refine wpList_delete_own _ rfl _ _ 40 3 rfl 4 lawK Try.underlying40 boElem wm _ D7 rfl hown7 _ _ rfl (keyOf_int_mk Try.underlying3 wy.out) ?_; intro w3 hown3 hturn3; go_frame)
        have hT3 : Wb w3 wm S3.L := by rw [hSL.out]; exact Wb_of hown3 (hr7'.out.del y.i)
        have hQ3 : Que B w3 qb bm S3 := hQ7.own (fun k hk ht => hturn3.grown.block k hk (fun e => by cases e; rw [Wb.tag ⟨D7, hown7, hr7'.out⟩] at ht; cases ht)) (hturn3.grown.block bm hQ7.ltm (fun e => d2 (by cases e; rfl)))
        have hB3 : Below w.heap.size w w3 := hB7.grown hturn3.grown hB7.size (fun k hk => by cases hk; exact d3)
        clear hown3 hturn3 hown7 hQ7 hSL hr7' hB7 kk1
        have hlist := list_any hQ3 hO3
        have hT3' : Hid (Wb w3 wm S3.L) := hT3
        clear hT3
        go_wp2_with (first
          | (go_at_call 19; refine hlist.mono ?_; rintro e w5 ⟨p5, c5, rfl, _, hb5⟩; obtain ⟨D5, hown5, hr5⟩ := hT3'.out.below hb5 hT3'.out.lt; have hsz5 : (Maps.size D5 : Int) = (S3.L.length : Int) := by rw [hr5.size])
          | (at_len; refine wpList_len_own _ rfl _ 40 rfl 3 4 Try.underlying40 boElem wm _ D5 rfl hown5 ?_)
          | go_in)
        exact ⟨⟨j + 1, S3, int_succ j, hj, hO3, hQ3.below hb5, ⟨D5, hown5, hr5⟩, hB3.trans (hb5.mono hB3.size)⟩, meas_1 hj⟩
    · have hji : ¬ (j : Int) < (l.length : Int) := by omega
      go_wp2
      go_ret
      exact ⟨rfl, hbl⟩
end Go.Proofs.Ythkhlgannimebaa
