/- QueuePlays, walked. -/
import Derived.Test.YthkhlgannimebaaQr6
import Derived.Test.YthkhlgannimebaaQac
import Derived.Test.YthkhlgannimebaaQli
import Derived.Test.YthkhlgannimebaaQss
namespace Go.Proofs.Ythkhlgannimebaa
open Go.RowKit Go.Maps Go.Sort Qum
set_option linter.unusedSectionVars false

theorem eqI (a i : Int) (w : World) : (binOp .eql 30 (.agg #[.int .i64 a, .int .i64 i]) (.agg #[.int .i64 a, .int .i64 i])).run Try.prog w = .ok (.bool true) w := by
  have u3 := Try.underlying3
  have a3 := Try.isAgg3
  have z3 := Try.sizeOf3
  have hS : Try.prog.underlying 30 = some (.struct (Try.prog.fieldsOf 30)) := by kernel_rfl
  have hp : Try.prog.stoodInHeld 30 = false := by kernel_rfl
  rw [run_eql_struct, show (10000 : Nat) = 9999 + 1 from rfl, run_equalIn_agg w 9999 30 _ _ hS hp]
  simp only [Program.fieldsOf, Try.underlying30]
  go_simp
theorem tag_apart {w : World} {k : Nat} (h : rtag w k = true) : tagd w k = false := by
  unfold rtag at h
  unfold tagd
  split at h
  · rename_i cs t fr he
    rw [he]
    simp at h ⊢
    rcases h with rfl | rfl <;> decide
  · cases h
theorem Que.bmr {B : Nat} {w : World} {qb bm : Nat} {S : Qu} (h : Que B w qb bm S) : rtag w bm = false := by
  obtain ⟨v, H, D, _, _, _, ⟨es, clock, hb, _⟩, _⟩ := h
  simp [rtag, hb]
theorem Rq.fq {B B' : Nat} {w w' : World} {mb qb bm : Nat} {L : List Th} {S : Qu} (h : Rq B w mb L) (hQ : Que B' w qb bm S) (hF : Fq B' (some bm) w w') : Rq B w' mb L :=
  h.own fun k hk hr => hF.oth k hk (fun e => by cases e; rw [hQ.bmr] at hr; cases hr) (tag_apart hr)
theorem Que.fr {B B' : Nat} {w w' : World} {qb bm : Nat} {S : Qu} (h : Que B w qb bm S) (hF : Fr B' w w') : Que B w' qb bm S :=
  h.own (fun k hk ht => hF.oth k hk (by
    cases e : rtag w k
    · rfl
    · rw [tag_apart e] at ht; cases ht)) (hF.oth bm h.ltm h.bmr)
theorem fr_cell {B : Nat} {w w' : World} {a : Addr} {v : Value} (hF : Fr B w w') (h : w.cell? a = some v) (h2 : rtag w a.block = false) : w'.cell? a = some v :=
  (World.cell?_of_block (w := w) (hF.oth a.block (World.block_lt_of_cell? w a h) h2)).trans h

set_option maxHeartbeats 4000000 in
set_option maxRecDepth 100000 in
theorem queuePlays_walk (w : World) (q : Option Addr) (l : List Ac) (cap : Nat) (h : Acts w q l) :
    Calls Try.prog 8 #[.slice q l.length cap] w fun e w' => e = .returned (.bool true) ∧ Below w.heap.size w w' := by
  by_cases h300 : (300 : Int) < (l.length : Int)
  · clear h
    go_enter Try.func8, Try.ntmps8
    go_wp2
    go_ret
    exact ⟨rfl, Below.refl _ _⟩
  go_enter Try.func8, Try.ntmps8
  go_wp2_with (go_at_call 15; refine (new_any _).mono ?_; rintro e w2 ⟨rfl, hQ2, hb2⟩)
  have hs2 := hb2.size
  have hQ3 := hQ2.below ((Below.refl w2.heap.size w2).alloc (Nat.le_refl _) (.cells #[.slice none 0 0] 28))
  have hR3 : Rq w.heap.size (w2.alloc (.cells #[.slice none 0 0] 28)) w2.heap.size [] :=
    ⟨none, 0, ⟨heap_alloc_new w2 _, Rrow_nil _⟩, hs2, fun k hk => by simp [Value.ownBlock] at hk⟩
  have hB3 : Below w.heap.size w (w2.alloc (.cells #[.slice none 0 0] 28)) := hb2.alloc hs2 _
  clear hs2 hb2 hQ2
  generalize (w2.alloc (.cells #[.slice none 0 0] 28)) = w3 at *
  generalize w2.heap.size = mb at *
  generalize w.heap.size + 1 = qb at *
  obtain ⟨bm, hbm⟩ : ∃ bm, bm = w.heap.size := ⟨_, rfl⟩
  obtain ⟨B, hBe⟩ : ∃ B, B = w.heap.size := ⟨_, rfl⟩
  have hQ3' : Que B w3 qb bm ⟨0, []⟩ := by rw [hBe, hbm]; exact hQ3
  have hR3' : Rq B w3 mb [] := by rw [hBe]; exact hR3
  have hd' : Hid (w.heap.size ≤ B) := by rw [hBe]; exact Nat.le_refl _
  clear hbm hBe hQ3 hR3
  go_loopw [19] (fun iv wr => ∃ (j : Nat) (S : Qu), iv = .int .i64 j ∧ j ≤ l.length ∧ Ok j S ∧ Que B wr qb bm S ∧ Rq B wr mb S.L ∧ Below w.heap.size w wr)
    (fun iv _ => l.length - (intOf iv).toNat)
  case atStart => exact ⟨0, _, rfl, Nat.zero_le _, Ok.new 0, hQ3', hR3', hB3⟩
  case round =>
    clear hQ3' hR3' hB3
    obtain ⟨j, S, rfl, hjl, hO, hQ, hR, hbl⟩ := hrel
    have d1 := hd'.out
    by_cases hj : j < l.length
    · rcases h with h | ⟨b, o, rfl, hA⟩
      · omega
      have hji : (j : Int) < (l.length : Int) := by omega
      have hj2 : Hid (j < 300) := by show _ < _; omega
      have z0 : wr.cell? ⟨b, o + j * 4, none⟩ = some (.int .i64 (ac l j).k) := (hbl.cell (p := ⟨b, o + j * 4, none⟩) hA.lt).trans (hA.ck j hj)
      have z1 : wr.cell? ⟨b, o + j * 4 + 1, none⟩ = some (.int .i64 (ac l j).i) := (hbl.cell (p := ⟨b, o + j * 4 + 1, none⟩) hA.lt).trans (hA.ci j hj)
      have z2 : wr.cell? ⟨b, o + j * 4 + 2, none⟩ = some (.int .i64 (ac l j).p) := (hbl.cell (p := ⟨b, o + j * 4 + 2, none⟩) hA.lt).trans (hA.cp j hj)
      have z3 : wr.cell? ⟨b, o + j * 4 + 3, none⟩ = some (.int .i64 (ac l j).a) := (hbl.cell (p := ⟨b, o + j * 4 + 3, none⟩) hA.lt).trans (hA.ca j hj)
      have wi : Hid ((Lit.int .i64 (ac l j).i).wf = true) := hA.wi j hj
      clear hA
      generalize ac l j = x at *
      have d5 : wr.heap.size ≠ bm := by have := hQ.ltm; omega
      by_cases hk1 : x.k = 1
      · go_wp2_with fail
        have hQq := hQ.below ((Below.refl wr.heap.size wr).alloc (Nat.le_refl _) (Obj.cells #[.int .i64 1, .int .i64 x.i, .int .i64 x.p, .int .i64 x.a] 52))
        have hRq := hR.below ((Below.refl wr.heap.size wr).alloc (Nat.le_refl _) (Obj.cells #[.int .i64 1, .int .i64 x.i, .int .i64 x.p, .int .i64 x.a] 52))
        have hbq : Below w.heap.size w (wr.alloc (Obj.cells #[.int .i64 1, .int .i64 x.i, .int .i64 x.p, .int .i64 x.a] 52)) := hbl.alloc hbl.size _
        have hn := heap_alloc_new wr (Obj.cells #[.int .i64 1, .int .i64 x.i, .int .i64 x.p, .int .i64 x.a] 52)
        clear hQ hbl hR z0 z1 z2 z3
        generalize wr.alloc (Obj.cells #[.int .i64 1, .int .i64 x.i, .int .i64 x.p, .int .i64 x.a] 52) = wq at *
        have htb : Hid (tagd wq wr.heap.size = false ∧ rtag wq wr.heap.size = false) := ⟨by simp [tagd, hn], by simp [rtag, hn]⟩
        generalize wr.heap.size = hb at *
        have n1 : wq.cell? ⟨hb, 1, none⟩ = some (.int .i64 x.i) := (cell_of_row _ _ 1 _ _ _ hn).trans rfl
        have n2 : wq.cell? ⟨hb, 2, none⟩ = some (.int .i64 x.p) := (cell_of_row _ _ 2 _ _ _ hn).trans rfl
        clear hn
        have hO3 : Ok (j + 1) (putS S x.p x.i) := hO.put x.p x.i
        have hfst : ∀ wd, Que B wd qb bm S → _ := fun wd h => put_any (p := x.p) (id := x.i) h hO (by have := hj2.out; omega) wi.out
        have hsnd : ∀ wd, Rq B wd mb S.L → _ := fun wd h => rput_any (pr := x.p) (id := x.i) h hO
        generalize putS S x.p x.i = S3 at *
        generalize putE S x.i = ev at *
        have hcq : wq.drew.cell? ⟨hb, 2, none⟩ = some (.int .i64 x.p) ∧ wq.drew.cell? ⟨hb, 1, none⟩ = some (.int .i64 x.i) := ⟨n2, n1⟩
        have hQd : Que B wq.drew qb bm S := hQq.own (fun _ _ _ => rfl) rfl
        have hRd : Rq B wq.drew mb S.L := hRq.own (fun _ _ _ => rfl)
        have hbd : Below w.heap.size w wq.drew := hbq.drew
        have htd : Hid (tagd wq.drew hb = false ∧ rtag wq.drew hb = false) := htb
        clear n1 n2 hQq hRq hbq htb
        refine Tkc.region_anyC (C := fun w' => w'.cell? ⟨hb, 2, none⟩ = some (.int .i64 x.p) ∧ w'.cell? ⟨hb, 1, none⟩ = some (.int .i64 x.i)) (s := 14) (by kernel_rfl) ?_
        refine Tkc.takeC (i := 0) (v := .pointer (some ⟨qb, 0, none⟩)) rfl (by kernel_rfl) (by kernel_rfl) (by kernel_rfl) (fun _ _ _ h => h) (by decide) (by kernel_rfl) (by kernel_rfl) hcq ⟨by rfl, fun w hw => by have hc2 : w.cell? ⟨hb, 2, none⟩ = some (.int .i64 x.p) := hw.1; have hc1 : w.cell? ⟨hb, 1, none⟩ = some (.int .i64 x.i) := hw.2; go_simp⟩ ?_
        go_frame
        refine Tkc.takeC (i := 1) (v := .pointer (some ⟨hb, 2, none⟩)) rfl (by kernel_rfl) (by kernel_rfl) (by kernel_rfl) (fun _ _ _ h => h) (by decide) (by kernel_rfl) (by kernel_rfl) hcq ⟨by rfl, fun w hw => by have hc2 : w.cell? ⟨hb, 2, none⟩ = some (.int .i64 x.p) := hw.1; have hc1 : w.cell? ⟨hb, 1, none⟩ = some (.int .i64 x.i) := hw.2; go_simp⟩ ?_
        go_frame
        refine Tkc.takeC (i := 2) (v := .int .i64 x.p) rfl (by kernel_rfl) (by kernel_rfl) (by kernel_rfl) (fun _ _ _ h => h) (by decide) (by kernel_rfl) (by kernel_rfl) hcq ⟨by rfl, fun w hw => by have hc2 : w.cell? ⟨hb, 2, none⟩ = some (.int .i64 x.p) := hw.1; have hc1 : w.cell? ⟨hb, 1, none⟩ = some (.int .i64 x.i) := hw.2; go_simp⟩ ?_
        go_frame
        refine Tkc.takeC (i := 3) (v := .pointer (some ⟨hb, 1, none⟩)) rfl (by kernel_rfl) (by kernel_rfl) (by kernel_rfl) (fun _ _ _ h => h) (by decide) (by kernel_rfl) (by kernel_rfl) hcq ⟨by rfl, fun w hw => by have hc2 : w.cell? ⟨hb, 2, none⟩ = some (.int .i64 x.p) := hw.1; have hc1 : w.cell? ⟨hb, 1, none⟩ = some (.int .i64 x.i) := hw.2; go_simp⟩ ?_
        go_frame
        refine Tkc.takeC (i := 4) (v := .int .i64 x.i) rfl (by kernel_rfl) (by kernel_rfl) (by kernel_rfl) (fun _ _ _ h => h) (by decide) (by kernel_rfl) (by kernel_rfl) hcq ⟨by rfl, fun w hw => by have hc2 : w.cell? ⟨hb, 2, none⟩ = some (.int .i64 x.p) := hw.1; have hc1 : w.cell? ⟨hb, 1, none⟩ = some (.int .i64 x.i) := hw.2; go_simp⟩ ?_
        go_frame
        refine Tkc.takeC (i := 6) (v := .pointer (some ⟨mb, 0, none⟩)) rfl (by kernel_rfl) (by kernel_rfl) (by kernel_rfl) (fun _ _ _ h => h) (by decide) (by kernel_rfl) (by kernel_rfl) hcq ⟨by rfl, fun w hw => by have hc2 : w.cell? ⟨hb, 2, none⟩ = some (.int .i64 x.p) := hw.1; have hc1 : w.cell? ⟨hb, 1, none⟩ = some (.int .i64 x.i) := hw.2; go_simp⟩ ?_
        go_frame
        refine Tkc.takeC (i := 7) (v := .pointer (some ⟨hb, 2, none⟩)) rfl (by kernel_rfl) (by kernel_rfl) (by kernel_rfl) (fun _ _ _ h => h) (by decide) (by kernel_rfl) (by kernel_rfl) hcq ⟨by rfl, fun w hw => by have hc2 : w.cell? ⟨hb, 2, none⟩ = some (.int .i64 x.p) := hw.1; have hc1 : w.cell? ⟨hb, 1, none⟩ = some (.int .i64 x.i) := hw.2; go_simp⟩ ?_
        go_frame
        refine Tkc.takeC (i := 8) (v := .int .i64 x.p) rfl (by kernel_rfl) (by kernel_rfl) (by kernel_rfl) (fun _ _ _ h => h) (by decide) (by kernel_rfl) (by kernel_rfl) hcq ⟨by rfl, fun w hw => by have hc2 : w.cell? ⟨hb, 2, none⟩ = some (.int .i64 x.p) := hw.1; have hc1 : w.cell? ⟨hb, 1, none⟩ = some (.int .i64 x.i) := hw.2; go_simp⟩ ?_
        go_frame
        refine Tkc.takeC (i := 9) (v := .pointer (some ⟨hb, 1, none⟩)) rfl (by kernel_rfl) (by kernel_rfl) (by kernel_rfl) (fun _ _ _ h => h) (by decide) (by kernel_rfl) (by kernel_rfl) hcq ⟨by rfl, fun w hw => by have hc2 : w.cell? ⟨hb, 2, none⟩ = some (.int .i64 x.p) := hw.1; have hc1 : w.cell? ⟨hb, 1, none⟩ = some (.int .i64 x.i) := hw.2; go_simp⟩ ?_
        go_frame
        refine Tkc.takeC (i := 10) (v := .int .i64 x.i) rfl (by kernel_rfl) (by kernel_rfl) (by kernel_rfl) (fun _ _ _ h => h) (by decide) (by kernel_rfl) (by kernel_rfl) hcq ⟨by rfl, fun w hw => by have hc2 : w.cell? ⟨hb, 2, none⟩ = some (.int .i64 x.p) := hw.1; have hc1 : w.cell? ⟨hb, 1, none⟩ = some (.int .i64 x.i) := hw.2; go_simp⟩ ?_
        go_frame
        generalize wq.drew = wd at *
        have hcall := hfst wd hQd
        refine Tkc.onlyC (i := 5) rfl (by kernel_rfl) (fun _ => hcq) (by rfl) (fun K hK => ?_)
        go_simp
        refine hcall.mono ?_
        rintro e w4 ⟨rfl, hQ4, hF4⟩
        refine hK _ _ ?_
        clear hK K hcall
        have hR4 : Rq B w4 mb S.L := hRd.fq hQd hF4
        have hc4 : w4.cell? ⟨hb, 2, none⟩ = some (.int .i64 x.p) ∧ w4.cell? ⟨hb, 1, none⟩ = some (.int .i64 x.i) := ⟨fq_cell hF4 hcq.1 (fun e => d5 (by cases e; rfl)) htd.out.1, fq_cell hF4 hcq.2 (fun e => d5 (by cases e; rfl)) htd.out.1⟩
        have hB4 : Below w.heap.size w w4 := hbd.trans (hF4.below.mono d1)
        have hrt4 : rtag w4 hb = false := (rtag_of (hF4.oth hb (World.block_lt_of_cell? wd _ hcq.1) (fun e => d5 (by cases e; rfl)) htd.out.1)).trans htd.out.2
        have hcall := hsnd w4 hR4
        clear hcq hQd hRd hbd hF4 htd hfst hsnd
        try go_frame
        refine Tkc.onlyC (i := 11) rfl (by kernel_rfl) (fun _ => hc4) (by rfl) (fun K hK => ?_)
        go_simp
        refine hcall.mono ?_
        rintro e w3 ⟨rfl, hR3, hF3⟩
        refine hK _ _ ?_
        clear hK K hcall
        have hc3 : w3.cell? ⟨hb, 2, none⟩ = some (.int .i64 x.p) ∧ w3.cell? ⟨hb, 1, none⟩ = some (.int .i64 x.i) := ⟨fr_cell hF3 hc4.1 hrt4, fr_cell hF3 hc4.2 hrt4⟩
        have hQ3 : Que B w3 qb bm S3 := hQ4.fr hF3
        have hB3 : Below w.heap.size w w3 := hB4.trans (hF3.below.mono d1)
        clear hc4 hQ4 hR4 hB4 hF3 hrt4
        try go_frame
        refine Tkc.onlyC (i := 12) rfl (by kernel_rfl) (fun _ => hc3) (by rfl) (fun K hK => ?_)
        go_simp
        refine hK _ _ ?_
        clear hK K
        try go_frame
        refine Tkc.onlyC (i := 13) rfl (by kernel_rfl) (fun _ => hc3) (by rfl) (fun K hK => ?_)
        go_simp
        refine hK _ _ ?_
        clear hK K
        refine Tkc.doneC (by kernel_rfl) (fun _ => hc3) ?_
        clear hc3
        have hlist := list_any hQ3 hO3
        have hQ3H : Hid (Que B w3 qb bm S3) := hQ3
        have hR3H : Hid (Rq B w3 mb S3.L) := hR3
        have hB3H : Hid (Below w.heap.size w w3) := hB3
        have hl3 : Hid (S3.L.length ≤ 200) := hO3.len
        clear hQ3 hR3 hB3
        go_wp2_with (first
          | (go_at_call 19; refine hlist.mono ?_; rintro e w5 ⟨p5, c5, rfl, hr5, hb5⟩; have hrow := rrow_any (hR3H.out.below hb5) hO3; have hr5' := Rrow_of_owns hr5; clear hlist hr5)
          | (go_at_call 12; refine hrow.mono ?_; rintro e w6 ⟨p6, c6, rfl, hr6, hb6⟩; have heq := equal_rr (srt_len S3.L) (hr5'.below hb6) hr6 (by have := hl3.out; omega); clear hrow)
          | (go_at_call 11; refine heq.mono ?_; rintro e w7 ⟨rfl, hb7⟩; clear heq)
          | go_in)
        have g5 := hB3H.out.trans (hb5.mono hB3H.out.size)
        have g6 := g5.trans (hb6.mono g5.size)
        exact ⟨⟨j + 1, S3, int_succ j, hj, hO3, ((hQ3H.out.below hb5).below hb6).below hb7, ((hR3H.out.below hb5).below hb6).below hb7, g6.trans (hb7.mono g6.size)⟩, meas_1 hj⟩
      by_cases hk2 : x.k = 2
      · go_wp2_with fail
        have hQq := hQ.below ((Below.refl wr.heap.size wr).alloc (Nat.le_refl _) (Obj.cells #[.int .i64 2, .int .i64 x.i, .int .i64 x.p, .int .i64 x.a] 52))
        have hRq := hR.below ((Below.refl wr.heap.size wr).alloc (Nat.le_refl _) (Obj.cells #[.int .i64 2, .int .i64 x.i, .int .i64 x.p, .int .i64 x.a] 52))
        have hbq : Below w.heap.size w (wr.alloc (Obj.cells #[.int .i64 2, .int .i64 x.i, .int .i64 x.p, .int .i64 x.a] 52)) := hbl.alloc hbl.size _
        have hn := heap_alloc_new wr (Obj.cells #[.int .i64 2, .int .i64 x.i, .int .i64 x.p, .int .i64 x.a] 52)
        clear hQ hbl hR z0 z1 z2 z3
        generalize wr.alloc (Obj.cells #[.int .i64 2, .int .i64 x.i, .int .i64 x.p, .int .i64 x.a] 52) = wq at *
        have htb : Hid (tagd wq wr.heap.size = false ∧ rtag wq wr.heap.size = false) := ⟨by simp [tagd, hn], by simp [rtag, hn]⟩
        generalize wr.heap.size = hb at *
        have n1 : wq.cell? ⟨hb, 1, none⟩ = some (.int .i64 x.i) := (cell_of_row _ _ 1 _ _ _ hn).trans rfl
        have n2 : wq.cell? ⟨hb, 2, none⟩ = some (.int .i64 x.p) := (cell_of_row _ _ 2 _ _ _ hn).trans rfl
        clear hn
        have hO3 : Ok (j + 1) (drpS S x.i) := (hO.drp x.i).mono (by omega)
        have hfst : ∀ wd, Que B wd qb bm S → _ := fun wd h => drop_any (id := x.i) h hO wi.out
        have hsnd : ∀ wd, Rq B wd mb S.L → _ := fun wd h => rdrop_any (id := x.i) h hO
        generalize drpS S x.i = S3 at *
        generalize drpE S x.i = ev at *
        have hcq : wq.drew.cell? ⟨hb, 2, none⟩ = some (.int .i64 x.p) ∧ wq.drew.cell? ⟨hb, 1, none⟩ = some (.int .i64 x.i) := ⟨n2, n1⟩
        have hQd : Que B wq.drew qb bm S := hQq.own (fun _ _ _ => rfl) rfl
        have hRd : Rq B wq.drew mb S.L := hRq.own (fun _ _ _ => rfl)
        have hbd : Below w.heap.size w wq.drew := hbq.drew
        have htd : Hid (tagd wq.drew hb = false ∧ rtag wq.drew hb = false) := htb
        clear n1 n2 hQq hRq hbq htb
        refine Tkc.region_anyC (C := fun w' => w'.cell? ⟨hb, 2, none⟩ = some (.int .i64 x.p) ∧ w'.cell? ⟨hb, 1, none⟩ = some (.int .i64 x.i)) (s := 10) (by kernel_rfl) ?_
        refine Tkc.takeC (i := 0) (v := .pointer (some ⟨qb, 0, none⟩)) rfl (by kernel_rfl) (by kernel_rfl) (by kernel_rfl) (fun _ _ _ h => h) (by decide) (by kernel_rfl) (by kernel_rfl) hcq ⟨by rfl, fun w hw => by have hc2 : w.cell? ⟨hb, 2, none⟩ = some (.int .i64 x.p) := hw.1; have hc1 : w.cell? ⟨hb, 1, none⟩ = some (.int .i64 x.i) := hw.2; go_simp⟩ ?_
        go_frame
        refine Tkc.takeC (i := 1) (v := .pointer (some ⟨hb, 1, none⟩)) rfl (by kernel_rfl) (by kernel_rfl) (by kernel_rfl) (fun _ _ _ h => h) (by decide) (by kernel_rfl) (by kernel_rfl) hcq ⟨by rfl, fun w hw => by have hc2 : w.cell? ⟨hb, 2, none⟩ = some (.int .i64 x.p) := hw.1; have hc1 : w.cell? ⟨hb, 1, none⟩ = some (.int .i64 x.i) := hw.2; go_simp⟩ ?_
        go_frame
        refine Tkc.takeC (i := 2) (v := .int .i64 x.i) rfl (by kernel_rfl) (by kernel_rfl) (by kernel_rfl) (fun _ _ _ h => h) (by decide) (by kernel_rfl) (by kernel_rfl) hcq ⟨by rfl, fun w hw => by have hc2 : w.cell? ⟨hb, 2, none⟩ = some (.int .i64 x.p) := hw.1; have hc1 : w.cell? ⟨hb, 1, none⟩ = some (.int .i64 x.i) := hw.2; go_simp⟩ ?_
        go_frame
        refine Tkc.takeC (i := 4) (v := .pointer (some ⟨mb, 0, none⟩)) rfl (by kernel_rfl) (by kernel_rfl) (by kernel_rfl) (fun _ _ _ h => h) (by decide) (by kernel_rfl) (by kernel_rfl) hcq ⟨by rfl, fun w hw => by have hc2 : w.cell? ⟨hb, 2, none⟩ = some (.int .i64 x.p) := hw.1; have hc1 : w.cell? ⟨hb, 1, none⟩ = some (.int .i64 x.i) := hw.2; go_simp⟩ ?_
        go_frame
        refine Tkc.takeC (i := 5) (v := .pointer (some ⟨hb, 1, none⟩)) rfl (by kernel_rfl) (by kernel_rfl) (by kernel_rfl) (fun _ _ _ h => h) (by decide) (by kernel_rfl) (by kernel_rfl) hcq ⟨by rfl, fun w hw => by have hc2 : w.cell? ⟨hb, 2, none⟩ = some (.int .i64 x.p) := hw.1; have hc1 : w.cell? ⟨hb, 1, none⟩ = some (.int .i64 x.i) := hw.2; go_simp⟩ ?_
        go_frame
        refine Tkc.takeC (i := 6) (v := .int .i64 x.i) rfl (by kernel_rfl) (by kernel_rfl) (by kernel_rfl) (fun _ _ _ h => h) (by decide) (by kernel_rfl) (by kernel_rfl) hcq ⟨by rfl, fun w hw => by have hc2 : w.cell? ⟨hb, 2, none⟩ = some (.int .i64 x.p) := hw.1; have hc1 : w.cell? ⟨hb, 1, none⟩ = some (.int .i64 x.i) := hw.2; go_simp⟩ ?_
        go_frame
        generalize wq.drew = wd at *
        have hcall := hfst wd hQd
        refine Tkc.onlyC (i := 3) rfl (by kernel_rfl) (fun _ => hcq) (by rfl) (fun K hK => ?_)
        go_simp
        refine hcall.mono ?_
        rintro e w4 ⟨rfl, hQ4, hF4⟩
        refine hK _ _ ?_
        clear hK K hcall
        have hR4 : Rq B w4 mb S.L := hRd.fq hQd hF4
        have hc4 : w4.cell? ⟨hb, 2, none⟩ = some (.int .i64 x.p) ∧ w4.cell? ⟨hb, 1, none⟩ = some (.int .i64 x.i) := ⟨fq_cell hF4 hcq.1 (fun e => d5 (by cases e; rfl)) htd.out.1, fq_cell hF4 hcq.2 (fun e => d5 (by cases e; rfl)) htd.out.1⟩
        have hB4 : Below w.heap.size w w4 := hbd.trans (hF4.below.mono d1)
        have hrt4 : rtag w4 hb = false := (rtag_of (hF4.oth hb (World.block_lt_of_cell? wd _ hcq.1) (fun e => d5 (by cases e; rfl)) htd.out.1)).trans htd.out.2
        have hcall := hsnd w4 hR4
        clear hcq hQd hRd hbd hF4 htd hfst hsnd
        try go_frame
        refine Tkc.onlyC (i := 7) rfl (by kernel_rfl) (fun _ => hc4) (by rfl) (fun K hK => ?_)
        go_simp
        refine hcall.mono ?_
        rintro e w3 ⟨rfl, hR3, hF3⟩
        refine hK _ _ ?_
        clear hK K hcall
        have hc3 : w3.cell? ⟨hb, 2, none⟩ = some (.int .i64 x.p) ∧ w3.cell? ⟨hb, 1, none⟩ = some (.int .i64 x.i) := ⟨fr_cell hF3 hc4.1 hrt4, fr_cell hF3 hc4.2 hrt4⟩
        have hQ3 : Que B w3 qb bm S3 := hQ4.fr hF3
        have hB3 : Below w.heap.size w w3 := hB4.trans (hF3.below.mono d1)
        clear hc4 hQ4 hR4 hB4 hF3 hrt4
        try go_frame
        refine Tkc.onlyC (i := 8) rfl (by kernel_rfl) (fun _ => hc3) (by rfl) (fun K hK => ?_)
        go_simp
        refine hK _ _ ?_
        clear hK K
        try go_frame
        refine Tkc.onlyC (i := 9) rfl (by kernel_rfl) (fun _ => hc3) (by rfl) (fun K hK => ?_)
        go_simp
        refine hK _ _ ?_
        clear hK K
        refine Tkc.doneC (by kernel_rfl) (fun _ => hc3) ?_
        clear hc3
        have hlist := list_any hQ3 hO3
        have hQ3H : Hid (Que B w3 qb bm S3) := hQ3
        have hR3H : Hid (Rq B w3 mb S3.L) := hR3
        have hB3H : Hid (Below w.heap.size w w3) := hB3
        have hl3 : Hid (S3.L.length ≤ 200) := hO3.len
        clear hQ3 hR3 hB3
        go_wp2_with (first
          | (go_at_call 19; refine hlist.mono ?_; rintro e w5 ⟨p5, c5, rfl, hr5, hb5⟩; have hrow := rrow_any (hR3H.out.below hb5) hO3; have hr5' := Rrow_of_owns hr5; clear hlist hr5)
          | (go_at_call 12; refine hrow.mono ?_; rintro e w6 ⟨p6, c6, rfl, hr6, hb6⟩; have heq := equal_rr (srt_len S3.L) (hr5'.below hb6) hr6 (by have := hl3.out; omega); clear hrow)
          | (go_at_call 11; refine heq.mono ?_; rintro e w7 ⟨rfl, hb7⟩; clear heq)
          | go_in)
        have g5 := hB3H.out.trans (hb5.mono hB3H.out.size)
        have g6 := g5.trans (hb6.mono g5.size)
        exact ⟨⟨j + 1, S3, int_succ j, hj, hO3, ((hQ3H.out.below hb5).below hb6).below hb7, ((hR3H.out.below hb5).below hb6).below hb7, g6.trans (hb7.mono g6.size)⟩, meas_1 hj⟩
      by_cases hk4 : x.k = 4
      · go_wp2_with fail
        have hQq := hQ.below ((Below.refl wr.heap.size wr).alloc (Nat.le_refl _) (Obj.cells #[.int .i64 4, .int .i64 x.i, .int .i64 x.p, .int .i64 x.a] 52))
        have hRq := hR.below ((Below.refl wr.heap.size wr).alloc (Nat.le_refl _) (Obj.cells #[.int .i64 4, .int .i64 x.i, .int .i64 x.p, .int .i64 x.a] 52))
        have hbq : Below w.heap.size w (wr.alloc (Obj.cells #[.int .i64 4, .int .i64 x.i, .int .i64 x.p, .int .i64 x.a] 52)) := hbl.alloc hbl.size _
        have hn := heap_alloc_new wr (Obj.cells #[.int .i64 4, .int .i64 x.i, .int .i64 x.p, .int .i64 x.a] 52)
        clear hQ hbl hR z0 z1 z2 z3
        generalize wr.alloc (Obj.cells #[.int .i64 4, .int .i64 x.i, .int .i64 x.p, .int .i64 x.a] 52) = wq at *
        have htb : Hid (tagd wq wr.heap.size = false ∧ rtag wq wr.heap.size = false) := ⟨by simp [tagd, hn], by simp [rtag, hn]⟩
        generalize wr.heap.size = hb at *
        have n1 : wq.cell? ⟨hb, 1, none⟩ = some (.int .i64 x.i) := (cell_of_row _ _ 1 _ _ _ hn).trans rfl
        have n2 : wq.cell? ⟨hb, 2, none⟩ = some (.int .i64 x.p) := (cell_of_row _ _ 2 _ _ _ hn).trans rfl
        clear hn
        have hO3 : Ok (j + 1) (raiS S x.i x.p) := (hO.rai x.i x.p).mono (by omega)
        have hfst : ∀ wd, Que B wd qb bm S → _ := fun wd h => raise_any (id := x.i) (p := x.p) h hO wi.out
        have hsnd : ∀ wd, Rq B wd mb S.L → _ := fun wd h => rraise_any (id := x.i) (pr := x.p) h hO
        generalize raiS S x.i x.p = S3 at *
        generalize raiE S x.i x.p = ev at *
        have hcq : wq.drew.cell? ⟨hb, 2, none⟩ = some (.int .i64 x.p) ∧ wq.drew.cell? ⟨hb, 1, none⟩ = some (.int .i64 x.i) := ⟨n2, n1⟩
        have hQd : Que B wq.drew qb bm S := hQq.own (fun _ _ _ => rfl) rfl
        have hRd : Rq B wq.drew mb S.L := hRq.own (fun _ _ _ => rfl)
        have hbd : Below w.heap.size w wq.drew := hbq.drew
        have htd : Hid (tagd wq.drew hb = false ∧ rtag wq.drew hb = false) := htb
        clear n1 n2 hQq hRq hbq htb
        refine Tkc.region_anyC (C := fun w' => w'.cell? ⟨hb, 2, none⟩ = some (.int .i64 x.p) ∧ w'.cell? ⟨hb, 1, none⟩ = some (.int .i64 x.i)) (s := 14) (by kernel_rfl) ?_
        refine Tkc.takeC (i := 0) (v := .pointer (some ⟨qb, 0, none⟩)) rfl (by kernel_rfl) (by kernel_rfl) (by kernel_rfl) (fun _ _ _ h => h) (by decide) (by kernel_rfl) (by kernel_rfl) hcq ⟨by rfl, fun w hw => by have hc2 : w.cell? ⟨hb, 2, none⟩ = some (.int .i64 x.p) := hw.1; have hc1 : w.cell? ⟨hb, 1, none⟩ = some (.int .i64 x.i) := hw.2; go_simp⟩ ?_
        go_frame
        refine Tkc.takeC (i := 1) (v := .pointer (some ⟨hb, 1, none⟩)) rfl (by kernel_rfl) (by kernel_rfl) (by kernel_rfl) (fun _ _ _ h => h) (by decide) (by kernel_rfl) (by kernel_rfl) hcq ⟨by rfl, fun w hw => by have hc2 : w.cell? ⟨hb, 2, none⟩ = some (.int .i64 x.p) := hw.1; have hc1 : w.cell? ⟨hb, 1, none⟩ = some (.int .i64 x.i) := hw.2; go_simp⟩ ?_
        go_frame
        refine Tkc.takeC (i := 2) (v := .int .i64 x.i) rfl (by kernel_rfl) (by kernel_rfl) (by kernel_rfl) (fun _ _ _ h => h) (by decide) (by kernel_rfl) (by kernel_rfl) hcq ⟨by rfl, fun w hw => by have hc2 : w.cell? ⟨hb, 2, none⟩ = some (.int .i64 x.p) := hw.1; have hc1 : w.cell? ⟨hb, 1, none⟩ = some (.int .i64 x.i) := hw.2; go_simp⟩ ?_
        go_frame
        refine Tkc.takeC (i := 3) (v := .pointer (some ⟨hb, 2, none⟩)) rfl (by kernel_rfl) (by kernel_rfl) (by kernel_rfl) (fun _ _ _ h => h) (by decide) (by kernel_rfl) (by kernel_rfl) hcq ⟨by rfl, fun w hw => by have hc2 : w.cell? ⟨hb, 2, none⟩ = some (.int .i64 x.p) := hw.1; have hc1 : w.cell? ⟨hb, 1, none⟩ = some (.int .i64 x.i) := hw.2; go_simp⟩ ?_
        go_frame
        refine Tkc.takeC (i := 4) (v := .int .i64 x.p) rfl (by kernel_rfl) (by kernel_rfl) (by kernel_rfl) (fun _ _ _ h => h) (by decide) (by kernel_rfl) (by kernel_rfl) hcq ⟨by rfl, fun w hw => by have hc2 : w.cell? ⟨hb, 2, none⟩ = some (.int .i64 x.p) := hw.1; have hc1 : w.cell? ⟨hb, 1, none⟩ = some (.int .i64 x.i) := hw.2; go_simp⟩ ?_
        go_frame
        refine Tkc.takeC (i := 6) (v := .pointer (some ⟨mb, 0, none⟩)) rfl (by kernel_rfl) (by kernel_rfl) (by kernel_rfl) (fun _ _ _ h => h) (by decide) (by kernel_rfl) (by kernel_rfl) hcq ⟨by rfl, fun w hw => by have hc2 : w.cell? ⟨hb, 2, none⟩ = some (.int .i64 x.p) := hw.1; have hc1 : w.cell? ⟨hb, 1, none⟩ = some (.int .i64 x.i) := hw.2; go_simp⟩ ?_
        go_frame
        refine Tkc.takeC (i := 7) (v := .pointer (some ⟨hb, 1, none⟩)) rfl (by kernel_rfl) (by kernel_rfl) (by kernel_rfl) (fun _ _ _ h => h) (by decide) (by kernel_rfl) (by kernel_rfl) hcq ⟨by rfl, fun w hw => by have hc2 : w.cell? ⟨hb, 2, none⟩ = some (.int .i64 x.p) := hw.1; have hc1 : w.cell? ⟨hb, 1, none⟩ = some (.int .i64 x.i) := hw.2; go_simp⟩ ?_
        go_frame
        refine Tkc.takeC (i := 8) (v := .int .i64 x.i) rfl (by kernel_rfl) (by kernel_rfl) (by kernel_rfl) (fun _ _ _ h => h) (by decide) (by kernel_rfl) (by kernel_rfl) hcq ⟨by rfl, fun w hw => by have hc2 : w.cell? ⟨hb, 2, none⟩ = some (.int .i64 x.p) := hw.1; have hc1 : w.cell? ⟨hb, 1, none⟩ = some (.int .i64 x.i) := hw.2; go_simp⟩ ?_
        go_frame
        refine Tkc.takeC (i := 9) (v := .pointer (some ⟨hb, 2, none⟩)) rfl (by kernel_rfl) (by kernel_rfl) (by kernel_rfl) (fun _ _ _ h => h) (by decide) (by kernel_rfl) (by kernel_rfl) hcq ⟨by rfl, fun w hw => by have hc2 : w.cell? ⟨hb, 2, none⟩ = some (.int .i64 x.p) := hw.1; have hc1 : w.cell? ⟨hb, 1, none⟩ = some (.int .i64 x.i) := hw.2; go_simp⟩ ?_
        go_frame
        refine Tkc.takeC (i := 10) (v := .int .i64 x.p) rfl (by kernel_rfl) (by kernel_rfl) (by kernel_rfl) (fun _ _ _ h => h) (by decide) (by kernel_rfl) (by kernel_rfl) hcq ⟨by rfl, fun w hw => by have hc2 : w.cell? ⟨hb, 2, none⟩ = some (.int .i64 x.p) := hw.1; have hc1 : w.cell? ⟨hb, 1, none⟩ = some (.int .i64 x.i) := hw.2; go_simp⟩ ?_
        go_frame
        generalize wq.drew = wd at *
        have hcall := hfst wd hQd
        refine Tkc.onlyC (i := 5) rfl (by kernel_rfl) (fun _ => hcq) (by rfl) (fun K hK => ?_)
        go_simp
        refine hcall.mono ?_
        rintro e w4 ⟨rfl, hQ4, hF4⟩
        refine hK _ _ ?_
        clear hK K hcall
        have hR4 : Rq B w4 mb S.L := hRd.fq hQd hF4
        have hc4 : w4.cell? ⟨hb, 2, none⟩ = some (.int .i64 x.p) ∧ w4.cell? ⟨hb, 1, none⟩ = some (.int .i64 x.i) := ⟨fq_cell hF4 hcq.1 (fun e => d5 (by cases e; rfl)) htd.out.1, fq_cell hF4 hcq.2 (fun e => d5 (by cases e; rfl)) htd.out.1⟩
        have hB4 : Below w.heap.size w w4 := hbd.trans (hF4.below.mono d1)
        have hrt4 : rtag w4 hb = false := (rtag_of (hF4.oth hb (World.block_lt_of_cell? wd _ hcq.1) (fun e => d5 (by cases e; rfl)) htd.out.1)).trans htd.out.2
        have hcall := hsnd w4 hR4
        clear hcq hQd hRd hbd hF4 htd hfst hsnd
        try go_frame
        refine Tkc.onlyC (i := 11) rfl (by kernel_rfl) (fun _ => hc4) (by rfl) (fun K hK => ?_)
        go_simp
        refine hcall.mono ?_
        rintro e w3 ⟨rfl, hR3, hF3⟩
        refine hK _ _ ?_
        clear hK K hcall
        have hc3 : w3.cell? ⟨hb, 2, none⟩ = some (.int .i64 x.p) ∧ w3.cell? ⟨hb, 1, none⟩ = some (.int .i64 x.i) := ⟨fr_cell hF3 hc4.1 hrt4, fr_cell hF3 hc4.2 hrt4⟩
        have hQ3 : Que B w3 qb bm S3 := hQ4.fr hF3
        have hB3 : Below w.heap.size w w3 := hB4.trans (hF3.below.mono d1)
        clear hc4 hQ4 hR4 hB4 hF3 hrt4
        try go_frame
        refine Tkc.onlyC (i := 12) rfl (by kernel_rfl) (fun _ => hc3) (by rfl) (fun K hK => ?_)
        go_simp
        refine hK _ _ ?_
        clear hK K
        try go_frame
        refine Tkc.onlyC (i := 13) rfl (by kernel_rfl) (fun _ => hc3) (by rfl) (fun K hK => ?_)
        go_simp
        refine hK _ _ ?_
        clear hK K
        refine Tkc.doneC (by kernel_rfl) (fun _ => hc3) ?_
        clear hc3
        have hlist := list_any hQ3 hO3
        have hQ3H : Hid (Que B w3 qb bm S3) := hQ3
        have hR3H : Hid (Rq B w3 mb S3.L) := hR3
        have hB3H : Hid (Below w.heap.size w w3) := hB3
        have hl3 : Hid (S3.L.length ≤ 200) := hO3.len
        clear hQ3 hR3 hB3
        go_wp2_with (first
          | (go_at_call 19; refine hlist.mono ?_; rintro e w5 ⟨p5, c5, rfl, hr5, hb5⟩; have hrow := rrow_any (hR3H.out.below hb5) hO3; have hr5' := Rrow_of_owns hr5; clear hlist hr5)
          | (go_at_call 12; refine hrow.mono ?_; rintro e w6 ⟨p6, c6, rfl, hr6, hb6⟩; have heq := equal_rr (srt_len S3.L) (hr5'.below hb6) hr6 (by have := hl3.out; omega); clear hrow)
          | (go_at_call 11; refine heq.mono ?_; rintro e w7 ⟨rfl, hb7⟩; clear heq)
          | go_in)
        have g5 := hB3H.out.trans (hb5.mono hB3H.out.size)
        have g6 := g5.trans (hb6.mono g5.size)
        exact ⟨⟨j + 1, S3, int_succ j, hj, hO3, ((hQ3H.out.below hb5).below hb6).below hb7, ((hR3H.out.below hb5).below hb6).below hb7, g6.trans (hb7.mono g6.size)⟩, meas_1 hj⟩
      go_wp2_with fail
      have hQq := hQ.below ((Below.refl wr.heap.size wr).alloc (Nat.le_refl _) (Obj.cells #[.int .i64 x.k, .int .i64 x.i, .int .i64 x.p, .int .i64 x.a] 52))
      have hRq := hR.below ((Below.refl wr.heap.size wr).alloc (Nat.le_refl _) (Obj.cells #[.int .i64 x.k, .int .i64 x.i, .int .i64 x.p, .int .i64 x.a] 52))
      have hbq : Below w.heap.size w (wr.alloc (Obj.cells #[.int .i64 x.k, .int .i64 x.i, .int .i64 x.p, .int .i64 x.a] 52)) := hbl.alloc hbl.size _
      have hn := heap_alloc_new wr (Obj.cells #[.int .i64 x.k, .int .i64 x.i, .int .i64 x.p, .int .i64 x.a] 52)
      clear hQ hbl hR z0 z1 z2 z3
      generalize wr.alloc (Obj.cells #[.int .i64 x.k, .int .i64 x.i, .int .i64 x.p, .int .i64 x.a] 52) = wq at *
      have htb : Hid (tagd wq wr.heap.size = false ∧ rtag wq wr.heap.size = false) := ⟨by simp [tagd, hn], by simp [rtag, hn]⟩
      generalize wr.heap.size = hb at *
      have n1 : wq.cell? ⟨hb, 1, none⟩ = some (.int .i64 x.i) := (cell_of_row _ _ 1 _ _ _ hn).trans rfl
      have n2 : wq.cell? ⟨hb, 2, none⟩ = some (.int .i64 x.p) := (cell_of_row _ _ 2 _ _ _ hn).trans rfl
      clear hn
      clear n1 n2 htb
      by_cases h0 : S.L = []
      · have htake := take_none hQq h0
        have hl0 : S.L.length = 0 := by rw [h0]; rfl
        have hef := eqI
        refine htake.mono ?_
        rintro e w4 ⟨rfl, hb4⟩
        have hQ5 := (hQq.below hb4).below ((Below.refl w4.heap.size w4).alloc (Nat.le_refl _) (.cells #[.int .i64 0, .int .i64 0] 30))
        have hR5 := (hRq.below hb4).below ((Below.refl w4.heap.size w4).alloc (Nat.le_refl _) (.cells #[.int .i64 0, .int .i64 0] 30))
        have hB4 : Below w.heap.size w w4 := hbq.trans (hb4.mono hbq.size)
        have hB5 : Below w.heap.size w (w4.alloc (.cells #[.int .i64 0, .int .i64 0] 30)) := hB4.alloc hB4.size _
        have hn5 := heap_alloc_new w4 (.cells #[.int .i64 0, .int .i64 0] 30)
        have hrow := rrow_any hR5 hO
        rw [hl0] at hrow
        clear htake hQq hRq hbq hB4
        have hQ5H : Hid (Que B (w4.alloc (.cells #[.int .i64 0, .int .i64 0] 30)) qb bm S) := hQ5
        have hR5H : Hid (Rq B (w4.alloc (.cells #[.int .i64 0, .int .i64 0] 30)) mb S.L) := hR5
        have hB5H : Hid (Below w.heap.size w (w4.alloc (.cells #[.int .i64 0, .int .i64 0] 30))) := hB5
        have k0 : (w4.alloc (.cells #[.int .i64 0, .int .i64 0] 30)).cell? ⟨w4.heap.size, 0, none⟩ = some (.int .i64 0) := (cell_of_row _ _ 0 _ _ _ hn5).trans rfl
        have k1 : (w4.alloc (.cells #[.int .i64 0, .int .i64 0] 30)).cell? ⟨w4.heap.size, 1, none⟩ = some (.int .i64 0) := (cell_of_row _ _ 1 _ _ _ hn5).trans rfl
        clear hQ5 hR5 hB5 hn5
        go_wp2_with (go_at_call 12; refine hrow.mono ?_; rintro e w3 ⟨p6, c6, rfl, hr6, hb6⟩; have m0 := (hb6.cell (p := ⟨w4.heap.size, 0, none⟩) (by simp)).trans k0; have m1 := (hb6.cell (p := ⟨w4.heap.size, 1, none⟩) (by simp)).trans k1; have hQ3 := hQ5H.out.below hb6; have hR3 := hR5H.out.below hb6; have hB3 : Below w.heap.size w w3 := hB5H.out.trans (hb6.mono hB5H.out.size); have hO3 : Ok (j + 1) S := hO.mono (by omega); have hlist := list_any hQ3 hO3; clear hrow k0 k1)
        obtain ⟨S3, rfl⟩ : ∃ S3, S3 = S := ⟨_, rfl⟩
        clear m0 m1 h0 hl0
        refine hlist.mono ?_
        rintro e w5 ⟨p5, c5, rfl, hr5, hb5⟩
        have hrow := rrow_any (hR3.below hb5) hO3
        have hr5' := Rrow_of_owns hr5
        have hl3 : Hid (S3.L.length ≤ 200) := hO3.len
        clear hlist hr5
        go_wp2_with (first
          | (go_at_call 12; refine hrow.mono ?_; rintro e w6 ⟨p6, c6, rfl, hr6, hb6⟩; have heq := equal_rr (srt_len S3.L) (hr5'.below hb6) hr6 (by have := hl3.out; omega); clear hrow)
          | (go_at_call 11; refine heq.mono ?_; rintro e w7 ⟨rfl, hb7⟩; clear heq)
          | go_in)
        have g5 := hB3.trans (hb5.mono hB3.size)
        have g6 := g5.trans (hb6.mono g5.size)
        exact ⟨⟨j + 1, S3, int_succ j, hj, hO3, ((hQ3.below hb5).below hb6).below hb7, ((hR3.below hb5).below hb6).below hb7, g6.trans (hb7.mono g6.size)⟩, meas_1 hj⟩
      · have htake := take_some hQq hO h0
        have hlpH : Hid (0 < S.L.length) := by
          show _ < _
          cases hL : S.L with
          | nil => exact absurd hL h0
          | cons a r => simp
        have hlne : ¬ (S.L.length : Int) = 0 := by have := hlpH.out; omega
        refine htake.mono ?_
        rintro e w4 ⟨y, rfl, hsy, hQ4, hF4⟩
        have hR4 : Rq B w4 mb S.L := hRq.fq hQq hF4
        have hB4 : Below w.heap.size w w4 := hbq.trans (hF4.below.mono d1)
        have hQ5 := hQ4.below ((Below.refl w4.heap.size w4).alloc (Nat.le_refl _) (.cells #[.int .i64 y.p, .int .i64 y.i] 30))
        have hR5 := hR4.below ((Below.refl w4.heap.size w4).alloc (Nat.le_refl _) (.cells #[.int .i64 y.p, .int .i64 y.i] 30))
        have hB5 : Below w.heap.size w (w4.alloc (.cells #[.int .i64 y.p, .int .i64 y.i] 30)) := hB4.alloc hB4.size _
        have hn5 := heap_alloc_new w4 (.cells #[.int .i64 y.p, .int .i64 y.i] 30)
        have hyL : y ∈ S.L := (srt_perm S.L).mem_iff.1 (by rw [hsy]; exact List.mem_cons_self)
        have hde : drpE S y.i = 0 := by unfold drpE; rw [if_pos (hasId_of hyL)]
        have hrow := rrow_any hR5 hO
        have hhyB : Hid (B ≤ w4.heap.size) := hQ4.base
        clear htake hQq hRq hbq hB4 hQ4 hR4 hF4 hyL
        have hszy : Hid (w4.heap.size < (w4.alloc (.cells #[.int .i64 y.p, .int .i64 y.i] 30)).heap.size) := by show _ < _; simp
        go_wp2_with fail
        generalize w4.alloc (.cells #[.int .i64 y.p, .int .i64 y.i] 30) = w5 at *
        generalize w4.heap.size = hy at *
        have k0 : w5.cell? ⟨hy, 0, none⟩ = some (.int .i64 y.p) := (cell_of_row _ _ 0 _ _ _ hn5).trans rfl
        have k1 : w5.cell? ⟨hy, 1, none⟩ = some (.int .i64 y.i) := (cell_of_row _ _ 1 _ _ _ hn5).trans rfl
        clear hn5
        refine hrow.mono ?_
        rintro e w6 ⟨p6, c6, rfl, hr6, hb6⟩
        have m0 := (hb6.cell (p := ⟨hy, 0, none⟩) hszy.out).trans k0
        have m1 := (hb6.cell (p := ⟨hy, 1, none⟩) hszy.out).trans k1
        clear hrow k0 k1
        go_wp2_with fail
        have hQ6 := hQ5.below hb6
        have hR6 := hR5.below hb6
        have hB6 : Below w.heap.size w w6 := hB5.trans (hb6.mono hB5.size)
        obtain ⟨g, rfl, _⟩ := hr6.at_ hlpH.out
        have z0 : w6.cell? ⟨g, 0, none⟩ = some (.int .i64 y.p) := by rw [hr6.cells (j := 0) (by have := hlpH.out; omega), hsy]; rfl
        have z1 : w6.cell? ⟨g, 1, none⟩ = some (.int .i64 y.i) := by rw [hr6.cells (j := 1) (by have := hlpH.out; omega), hsy]; rfl
        have hO3 : Ok (j + 1) (drpS S y.i) := (hO.drp y.i).mono (by omega)
        have hQd : Que B w6.drew qb bm (drpS S y.i) := hQ6.own (fun _ _ _ => rfl) rfl
        have hRd : Rq B w6.drew mb S.L := hR6.own (fun _ _ _ => rfl)
        have hbd : Below w.heap.size w w6.drew := hB6.drew
        have hcall := rdrop_any (id := y.i) hRd hO
        rw [hde] at hcall
        have hef := eqI
        have hgp : 0 < S.L.length := hlpH.out
        clear hQ6 hR6 hB6 hQ5 hR5 hB5 hsy hr6 hb6 hde
        generalize drpS S y.i = S3 at *
        refine wp_region_still_tail 12 (by kernel_rfl) (by kernel_rfl) ?_
        simp only [List.take_succ_cons, List.take_zero, List.drop_succ_cons, List.drop_zero]
        repeat (first | still_step | (refine wpStill_step (fun K hK => ?_); rw [if_pos (by simp [Region.wanted, yielded])]; go_simp; refine hK _ ?_; clear hK K))
        refine wpStill_nil ?_
        change wpList _ _ _ _ _ (World.drew w6)
        clear m0 m1 z0 z1
        generalize w6.drew = wd at *
        go_wp2_with (go_at_call 24; refine hcall.mono ?_; rintro e w3 ⟨rfl, hR3, hF3⟩; have hQ3 : Que B w3 qb bm S3 := hQd.fr hF3; have hB3 : Below w.heap.size w w3 := hbd.trans (hF3.below.mono d1); clear hcall)
        clear hQd hRd hbd hF3
        have hlist := list_any hQ3 hO3
        refine hlist.mono ?_
        rintro e w5 ⟨p5, c5, rfl, hr5, hb5⟩
        have hrow := rrow_any (hR3.below hb5) hO3
        have hr5' := Rrow_of_owns hr5
        have hl3 : Hid (S3.L.length ≤ 200) := hO3.len
        clear hlist hr5
        go_wp2_with (first
          | (go_at_call 12; refine hrow.mono ?_; rintro e w6 ⟨p6, c6, rfl, hr6, hb6⟩; have heq := equal_rr (srt_len S3.L) (hr5'.below hb6) hr6 (by have := hl3.out; omega); clear hrow)
          | (go_at_call 11; refine heq.mono ?_; rintro e w7 ⟨rfl, hb7⟩; clear heq)
          | go_in)
        have g5 := hB3.trans (hb5.mono hB3.size)
        have g6 := g5.trans (hb6.mono g5.size)
        exact ⟨⟨j + 1, S3, int_succ j, hj, hO3, ((hQ3.below hb5).below hb6).below hb7, ((hR3.below hb5).below hb6).below hb7, g6.trans (hb7.mono g6.size)⟩, meas_1 hj⟩
    · have hji : ¬ (j : Int) < (l.length : Int) := by omega
      go_wp2
      go_ret
      exact ⟨rfl, hbl⟩
end Go.Proofs.Ythkhlgannimebaa
