/- WheelPlays, walked. -/
import Derived.Test.YtejfogajlddaeaaRf3
import Derived.Test.YtejfogajlddaeaaOnc
namespace Go.Proofs.Ytejfogajlddaeaa
open Go.RowKit Go.Maps Go.Shelf Go.Lib Go.Sort Whm
set_option linter.unusedSectionVars false
variable [Inhabited Tm]
variable [Inhabited Ac]

theorem whl_drewN' {w : World} {pb bm : Nat} {S : Wh} (h : Whl w pb bm S) (q : Nat) : Whl (w.drewN q) pb bm S := h.kept rfl rfl
theorem blk_of {p : Option Addr} {B mb pb bm : Nat} (hpp : ∀ a : Addr, p = some a → B ≤ a.block ∧ a.block ≠ pb ∧ a.block ≠ bm) (h1 : B ≤ mb) (h2 : mb ≠ pb) (h3 : mb ≠ bm) : B ≤ blk p mb ∧ blk p mb ≠ pb ∧ blk p mb ≠ bm := by
  cases p with
  | none => exact ⟨h1, h2, h3⟩
  | some a => exact hpp a rfl
theorem blk_lt {w : World} {mb : Nat} {p : Option Addr} {cap : Nat} {now : Int} {L : List Tm} (h : Rfl w mb p cap now L) : blk p mb < w.heap.size := by
  cases p with
  | none => exact h.lt
  | some a => exact h.ltp a rfl
theorem Rfl_kp {w w' : World} {mb pb bm B : Nat} {p : Option Addr} {cap : Nat} {now : Int} {L : List Tm} (h : Rfl w mb p cap now L) (hK : Kp pb bm w w') (h1 : mb ≠ pb) (h2 : mb ≠ bm) (hpp : ∀ a : Addr, p = some a → B ≤ a.block ∧ a.block ≠ pb ∧ a.block ≠ bm) : Rfl w' mb p cap now L :=
  h.kept (hK.block mb h.lt h1 h2) (fun a ha => hK.block a.block (h.ltp a ha) (hpp a ha).2.1 (hpp a ha).2.2)
theorem pp_new {w3 : World} {p p4 : Option Addr} {B pb bm : Nat} (hpp : ∀ a : Addr, p = some a → B ≤ a.block ∧ a.block ≠ pb ∧ a.block ≠ bm) (hp : p4 = p ∨ ∃ k, p4 = some ⟨k, 0, none⟩ ∧ w3.heap.size ≤ k) (hB : B ≤ w3.heap.size) (h1 : pb < w3.heap.size) (h2 : bm < w3.heap.size) :
    ∀ a : Addr, p4 = some a → B ≤ a.block ∧ a.block ≠ pb ∧ a.block ≠ bm := by
  intro a ha
  rcases hp with e | ⟨k, e, hk⟩
  · exact hpp a (by rw [← e]; exact ha)
  · rw [e] at ha
    cases ha
    show B ≤ k ∧ k ≠ pb ∧ k ≠ bm
    omega
theorem radv_ok2 {w : World} {mb k : Nat} {p : Option Addr} {cap : Nat} {S : Wh} {n : Int} (h : Rfl w mb p cap S.now S.L) (hO : Ok k S) (hk2 : k ≤ 1000000) (n0 : 0 ≤ n) (n1 : n ≤ 16777216) :
    Calls Try.prog 20 #[.pointer (some ⟨mb, 0, none⟩), .int .i64 n] w fun e w' => ∃ (po : Option Addr) (co : Nat) (p' : Option Addr) (cap' : Nat), e = .returned (.tuple #[.slice po (dueL S n).length co, .int .i64 0]) ∧ w'.ownsRow w.heap.size 36 2 (.slice po (dueL S n).length co) (dueL S n).length (flatF (dueL S n)) ∧
      Rfl w' mb p' cap' (advS S n).now (advS S n).L ∧ Kp mb (blk p mb) w w' ∧ (p' = p ∨ ∃ k, p' = some ⟨k, 0, none⟩ ∧ w.heap.size ≤ k) :=
  (radv_ok h hO hk2 n0 n1).mono fun e w' ⟨v, he, hrow, p', cap', hr⟩ => by
    rcases hrow.2 with ⟨rfl, h0⟩ | ⟨g, co, cur, rfl, r⟩
    · exact ⟨none, 0, p', cap', by rw [h0]; exact he, by rw [h0] at hrow ⊢; exact hrow, hr⟩
    · exact ⟨_, co, p', cap', he, hrow, hr⟩

set_option maxHeartbeats 4000000 in
set_option maxRecDepth 100000 in
theorem wheelPlays_walk (w : World) (q : Option Addr) (l : List Ac) (cap : Nat) (h : Acts w q l) :
    Calls Try.prog 6 #[.slice q l.length cap] w fun e w' => e = .returned (.bool true) ∧ Below w.heap.size w w' := by
  by_cases h300 : (300 : Int) < (l.length : Int)
  · clear h
    go_enter Try.func6, Try.ntmps6
    go_wp2
    go_ret
    exact ⟨rfl, Below.refl _ _⟩
  go_enter Try.func6, Try.ntmps6
  go_wp2_with (go_at_call 8; refine (new_any _).mono ?_; rintro e w2 ⟨rfl, hW2, hb2⟩)
  have hs2 := hW2.lt
  have hW3 := Whl_alloc hW2 (.cells #[.int .i64 0, .slice none 0 0] 48)
  have hB3 : Below w.heap.size w (w2.alloc (.cells #[.int .i64 0, .slice none 0 0] 48)) := hb2.alloc hb2.size _
  have hb := heap_alloc_new w2 (.cells #[.int .i64 0, .slice none 0 0] 48)
  have hR3 : Rfl (w2.alloc (.cells #[.int .i64 0, .slice none 0 0] 48)) w2.heap.size none 0 0 [] := by
    refine ⟨?_, ?_, ?_, ?_, Rrow_nil _, fun a ha => by cases ha⟩
    · rw [cell_of_row _ _ _ _ _ _ hb]; rfl
    · rw [cell_of_row _ _ _ _ _ _ hb]; rfl
    · simp only [World.frozen?, hb]; rfl
    · simp only [World.frozen?, hb]; rfl
  have hd : Hid (w.heap.size ≤ w.heap.size + 1 ∧ w.heap.size ≤ w.heap.size ∧ w.heap.size ≤ w2.heap.size ∧ w2.heap.size ≠ w.heap.size + 1 ∧ w2.heap.size ≠ w.heap.size) := by
    show _ ∧ _
    omega
  clear hs2 hb2 hW2 hb
  generalize (w2.alloc (.cells #[.int .i64 0, .slice none 0 0] 48)) = w3 at *
  generalize w2.heap.size = mb at *
  generalize w.heap.size + 1 = pb at *
  obtain ⟨bm, hbm⟩ : ∃ bm, bm = w.heap.size := ⟨_, rfl⟩
  rw [← hbm] at hW3
  have hd' : Hid (w.heap.size ≤ pb ∧ w.heap.size ≤ bm ∧ w.heap.size ≤ mb ∧ mb ≠ pb ∧ mb ≠ bm) := by
    rw [hbm]; exact hd
  clear hbm hd
  go_loopw [23] (fun iv wr => ∃ (j : Nat) (S : Wh) (p : Option Addr) (c : Nat), iv = .int .i64 j ∧ j ≤ l.length ∧ Ok j S ∧ Whl wr pb bm S ∧ Rfl wr mb p c S.now S.L ∧ Hid (∀ a : Addr, p = some a → w.heap.size ≤ a.block ∧ a.block ≠ pb ∧ a.block ≠ bm) ∧ Below w.heap.size w wr)
    (fun iv _ => l.length - (intOf iv).toNat)
  case atStart => exact ⟨0, _, none, 0, rfl, Nat.zero_le _, Ok.new 0, hW3, hR3, fun a ha => (by cases ha), hB3⟩
  case round =>
    clear hW3 hR3 hB3
    obtain ⟨j, S, p, c, rfl, hjl, hO, hW, hR, hpp, hbl⟩ := hrel
    obtain ⟨d1, d2, d3, d4, d5⟩ := hd'.out
    by_cases hj : j < l.length
    · rcases h with h | ⟨b, o, rfl, hA⟩
      · omega
      have hji : (j : Int) < (l.length : Int) := by omega
      have hj2 : Hid (j < 300) := by show _ < _; omega
      have z0 : wr.cell? ⟨b, o + j * 4, none⟩ = some (.int .i64 l[j]!.k) := (hbl.cell (p := ⟨b, o + j * 4, none⟩) hA.lt).trans (hA.ck j hj)
      have z1 : wr.cell? ⟨b, o + j * 4 + 1, none⟩ = some (.int .i64 l[j]!.i) := (hbl.cell (p := ⟨b, o + j * 4 + 1, none⟩) hA.lt).trans (hA.ci j hj)
      have z2 : wr.cell? ⟨b, o + j * 4 + 2, none⟩ = some (.int .i64 l[j]!.p) := (hbl.cell (p := ⟨b, o + j * 4 + 2, none⟩) hA.lt).trans (hA.cp j hj)
      have z3 : wr.cell? ⟨b, o + j * 4 + 3, none⟩ = some (.int .i64 l[j]!.a) := (hbl.cell (p := ⟨b, o + j * 4 + 3, none⟩) hA.lt).trans (hA.ca j hj)
      have wi : Hid ((Lit.int .i64 l[j]!.i).wf = true) := hA.wi j hj
      have wa : Hid (-9223372036854775808 ≤ l[j]!.a ∧ l[j]!.a < 9223372036854775808) := hA.wa j hj
      clear hA
      generalize l[j]! = x at *
      have hbx : Hid (pb < wr.heap.size ∧ bm < wr.heap.size ∧ mb < wr.heap.size ∧ blk p mb < wr.heap.size ∧ w.heap.size ≤ wr.heap.size) := ⟨hW.lt, hW.ltm, hR.lt, blk_lt hR, hbl.size⟩
      by_cases hk1 : x.k = 1
      · go_wp2_with fail
        have hWq := Whl_alloc hW (Obj.cells #[.int .i64 1, .int .i64 x.i, .int .i64 x.p, .int .i64 x.a] 49)
        have hRq := hR.alloc (Obj.cells #[.int .i64 1, .int .i64 x.i, .int .i64 x.p, .int .i64 x.a] 49)
        have hbq : Below w.heap.size w (wr.alloc (Obj.cells #[.int .i64 1, .int .i64 x.i, .int .i64 x.p, .int .i64 x.a] 49)) := hbl.alloc hbl.size _
        have hn := heap_alloc_new wr (Obj.cells #[.int .i64 1, .int .i64 x.i, .int .i64 x.p, .int .i64 x.a] 49)
        have hsq : wr.heap.size < (wr.alloc (Obj.cells #[.int .i64 1, .int .i64 x.i, .int .i64 x.p, .int .i64 x.a] 49)).heap.size := by simp
        clear hW hbl hR z0 z1 z2 z3
        generalize wr.alloc (Obj.cells #[.int .i64 1, .int .i64 x.i, .int .i64 x.p, .int .i64 x.a] 49) = wq at *
        generalize wr.heap.size = hb at *
        have n1 : wq.cell? ⟨hb, 1, none⟩ = some (.int .i64 x.i) := (cell_of_row _ _ 1 _ _ _ hn).trans rfl
        have n3 : wq.cell? ⟨hb, 3, none⟩ = some (.int .i64 x.a) := (cell_of_row _ _ 3 _ _ _ hn).trans rfl
        obtain ⟨b1, b2, b3, b4, b5⟩ := hbx.out
        obtain ⟨u1, u2, u3⟩ := blk_of hpp.out d3 d4 d5
        clear hn
        have hO3 := hO.add x.a x.i
        have hadd := fun wd (hWd : Whl wd pb bm S) => add_any (at_ := x.a) (id := x.i) hWd hO (by have := hj2.out; omega) wa.out.2 wi.out
        have hradd := fun wd (hRd : Rfl wd mb p c S.now S.L) => radd_any (at_ := x.a) (id := x.i) hRd hO wa.out.2
        generalize addE S x.a x.i = ev at hadd hradd
        generalize addS S x.a x.i = S3 at *
        have hcq : wq.drew.cell? ⟨hb, 3, none⟩ = some (.int .i64 x.a) ∧ wq.drew.cell? ⟨hb, 1, none⟩ = some (.int .i64 x.i) := ⟨n3, n1⟩
        clear n1 n3
        have hWd : Whl wq.drew pb bm S := Whl_drew hWq
        have hRd : Rfl wq.drew mb p c S.now S.L := hRq.kept rfl (fun _ _ => rfl)
        have hbd : Below w.heap.size w wq.drew := hbq.drew
        have hsd : hb < wq.drew.heap.size := hsq
        clear hWq hRq hbq hsq
        refine Tkc.region_anyC (C := fun w' => w'.cell? ⟨hb, 3, none⟩ = some (.int .i64 x.a) ∧ w'.cell? ⟨hb, 1, none⟩ = some (.int .i64 x.i)) (s := 13) (by kernel_rfl) ?_
        refine Tkc.takeC (i := 0) (v := .pointer (some ⟨pb, 0, none⟩)) rfl (by kernel_rfl) (by kernel_rfl) (by kernel_rfl) (fun _ _ _ h => h) (by decide) (by kernel_rfl) (by kernel_rfl) hcq ⟨by rfl, fun w hw => by have hc3 : w.cell? ⟨hb, 3, none⟩ = some (.int .i64 x.a) := hw.1; have hc1 : w.cell? ⟨hb, 1, none⟩ = some (.int .i64 x.i) := hw.2; go_simp⟩ ?_
        go_frame
        refine Tkc.takeC (i := 1) (v := .pointer (some ⟨hb, 3, none⟩)) rfl (by kernel_rfl) (by kernel_rfl) (by kernel_rfl) (fun _ _ _ h => h) (by decide) (by kernel_rfl) (by kernel_rfl) hcq ⟨by rfl, fun w hw => by have hc3 : w.cell? ⟨hb, 3, none⟩ = some (.int .i64 x.a) := hw.1; have hc1 : w.cell? ⟨hb, 1, none⟩ = some (.int .i64 x.i) := hw.2; go_simp⟩ ?_
        go_frame
        refine Tkc.takeC (i := 2) (v := .int .i64 x.a) rfl (by kernel_rfl) (by kernel_rfl) (by kernel_rfl) (fun _ _ _ h => h) (by decide) (by kernel_rfl) (by kernel_rfl) hcq ⟨by rfl, fun w hw => by have hc3 : w.cell? ⟨hb, 3, none⟩ = some (.int .i64 x.a) := hw.1; have hc1 : w.cell? ⟨hb, 1, none⟩ = some (.int .i64 x.i) := hw.2; go_simp⟩ ?_
        go_frame
        refine Tkc.takeC (i := 3) (v := .pointer (some ⟨hb, 1, none⟩)) rfl (by kernel_rfl) (by kernel_rfl) (by kernel_rfl) (fun _ _ _ h => h) (by decide) (by kernel_rfl) (by kernel_rfl) hcq ⟨by rfl, fun w hw => by have hc3 : w.cell? ⟨hb, 3, none⟩ = some (.int .i64 x.a) := hw.1; have hc1 : w.cell? ⟨hb, 1, none⟩ = some (.int .i64 x.i) := hw.2; go_simp⟩ ?_
        go_frame
        refine Tkc.takeC (i := 4) (v := .int .i64 x.i) rfl (by kernel_rfl) (by kernel_rfl) (by kernel_rfl) (fun _ _ _ h => h) (by decide) (by kernel_rfl) (by kernel_rfl) hcq ⟨by rfl, fun w hw => by have hc3 : w.cell? ⟨hb, 3, none⟩ = some (.int .i64 x.a) := hw.1; have hc1 : w.cell? ⟨hb, 1, none⟩ = some (.int .i64 x.i) := hw.2; go_simp⟩ ?_
        go_frame
        refine Tkc.takeC (i := 6) (v := .pointer (some ⟨mb, 0, none⟩)) rfl (by kernel_rfl) (by kernel_rfl) (by kernel_rfl) (fun _ _ _ h => h) (by decide) (by kernel_rfl) (by kernel_rfl) hcq ⟨by rfl, fun w hw => by have hc3 : w.cell? ⟨hb, 3, none⟩ = some (.int .i64 x.a) := hw.1; have hc1 : w.cell? ⟨hb, 1, none⟩ = some (.int .i64 x.i) := hw.2; go_simp⟩ ?_
        go_frame
        refine Tkc.takeC (i := 7) (v := .pointer (some ⟨hb, 3, none⟩)) rfl (by kernel_rfl) (by kernel_rfl) (by kernel_rfl) (fun _ _ _ h => h) (by decide) (by kernel_rfl) (by kernel_rfl) hcq ⟨by rfl, fun w hw => by have hc3 : w.cell? ⟨hb, 3, none⟩ = some (.int .i64 x.a) := hw.1; have hc1 : w.cell? ⟨hb, 1, none⟩ = some (.int .i64 x.i) := hw.2; go_simp⟩ ?_
        go_frame
        refine Tkc.takeC (i := 8) (v := .int .i64 x.a) rfl (by kernel_rfl) (by kernel_rfl) (by kernel_rfl) (fun _ _ _ h => h) (by decide) (by kernel_rfl) (by kernel_rfl) hcq ⟨by rfl, fun w hw => by have hc3 : w.cell? ⟨hb, 3, none⟩ = some (.int .i64 x.a) := hw.1; have hc1 : w.cell? ⟨hb, 1, none⟩ = some (.int .i64 x.i) := hw.2; go_simp⟩ ?_
        go_frame
        refine Tkc.takeC (i := 9) (v := .pointer (some ⟨hb, 1, none⟩)) rfl (by kernel_rfl) (by kernel_rfl) (by kernel_rfl) (fun _ _ _ h => h) (by decide) (by kernel_rfl) (by kernel_rfl) hcq ⟨by rfl, fun w hw => by have hc3 : w.cell? ⟨hb, 3, none⟩ = some (.int .i64 x.a) := hw.1; have hc1 : w.cell? ⟨hb, 1, none⟩ = some (.int .i64 x.i) := hw.2; go_simp⟩ ?_
        go_frame
        refine Tkc.takeC (i := 10) (v := .int .i64 x.i) rfl (by kernel_rfl) (by kernel_rfl) (by kernel_rfl) (fun _ _ _ h => h) (by decide) (by kernel_rfl) (by kernel_rfl) hcq ⟨by rfl, fun w hw => by have hc3 : w.cell? ⟨hb, 3, none⟩ = some (.int .i64 x.a) := hw.1; have hc1 : w.cell? ⟨hb, 1, none⟩ = some (.int .i64 x.i) := hw.2; go_simp⟩ ?_
        go_frame
        generalize wq.drew = wd at *
        refine Tkc.onlyC (i := 5) rfl (by kernel_rfl) (fun _ => hcq) (by rfl) (fun K hK => ?_)
        go_simp
        refine (hadd _ hWd).mono ?_
        rintro e w3 ⟨rfl, hW3, hK3⟩
        refine hK _ _ ?_
        clear hK K
        have hc3 : w3.cell? ⟨hb, 3, none⟩ = some (.int .i64 x.a) ∧ w3.cell? ⟨hb, 1, none⟩ = some (.int .i64 x.i) := ⟨kp_cell hK3 hcq.1 (show hb ≠ pb by omega) (show hb ≠ bm by omega), kp_cell hK3 hcq.2 (show hb ≠ pb by omega) (show hb ≠ bm by omega)⟩
        have hR3 : Rfl w3 mb p c S.now S.L := Rfl_kp hRd hK3 d4 d5 hpp.out
        have hB3 : Below w.heap.size w w3 := hbd.trans (hK3.below d1 d2 hbd.size)
        have hs3 := hK3.size
        try go_frame
        refine Tkc.onlyC (i := 11) rfl (by kernel_rfl) (fun _ => hc3) (by rfl) (fun K hK => ?_)
        go_simp
        refine (hradd _ hR3).mono ?_
        rintro e w4 ⟨rfl, p4, c4, hR4, hK4, hp4⟩
        refine hK _ _ ?_
        clear hK K
        have hc4 : w4.cell? ⟨hb, 3, none⟩ = some (.int .i64 x.a) ∧ w4.cell? ⟨hb, 1, none⟩ = some (.int .i64 x.i) := ⟨kp_cell hK4 hc3.1 (show hb ≠ mb by omega) (show hb ≠ blk p mb by omega), kp_cell hK4 hc3.2 (show hb ≠ mb by omega) (show hb ≠ blk p mb by omega)⟩
        try go_frame
        refine Tkc.onlyC (i := 12) rfl (by kernel_rfl) (fun _ => hc4) (by rfl) (fun K hK => ?_)
        go_simp
        refine hK _ _ ?_
        clear hK K
        refine Tkc.doneC (by kernel_rfl) (fun _ => hc4) ?_
        have hW4 : Whl w4 pb bm S3 := hK4.other hW3 (Ne.symm d4) (Ne.symm u2) (Ne.symm d5) (Ne.symm u3)
        have hB4 : Below w.heap.size w w4 := hB3.trans (hK4.below d3 u1 hB3.size)
        have hpn : Hid (∀ a : Addr, p4 = some a → w.heap.size ≤ a.block ∧ a.block ≠ pb ∧ a.block ≠ bm) := pp_new hpp.out hp4 hB3.size hW3.lt hW3.ltm
        clear hcq hc3 hc4 hK3 hK4 hp4 hWd hRd hbd hR3 hW3 hB3 hpp hs3 hsd
        go_wp2_with fail
        have hnx := next_any hW4
        have hl3 := hO3.len
        go_wp2_with (go_at_call 13; refine hnx.mono ?_; rintro e w5 ⟨rfl, hb5⟩)
        have hW5 := hW4.below hb5 hW4.lt hW4.ltm
        have hR5 := hR4.below hb5
        have hB5 : Below w.heap.size w w5 := hB4.trans (hb5.mono hB4.size)
        refine (rnext_any hR5 (by omega)).mono ?_
        rintro e w6 ⟨rfl, hb6⟩
        have hW6 := hW5.below hb6 hW5.lt hW5.ltm
        have hR6 := hR5.below hb6
        have hB6 : Below w.heap.size w w6 := hB5.trans (hb6.mono hB5.size)
        clear hnx hW5 hR5 hB5 hW4 hR4 hB4 hb5 hb6
        generalize leastA S3.L = la at *
        generalize someB S3.L = sb at *
        have hWd := fun q => whl_drewN' hW6 q
        have c0 := hR6.c0
        cases sb
        · go_wp2_with fail
          go_quiet ((go_at_call 9; refine Calls.quiet_of_same (now_any (hWd _))))
          go_wp2
          exact ⟨⟨j + 1, S3, p4, c4, int_succ j, hj, hO3, hWd nq, hR6.kept rfl (fun _ _ => rfl), hpn, drewN_below hB6 nq⟩, meas_1 hj⟩
        · go_wp2_with fail
          go_quiet ((go_at_call 9; refine Calls.quiet_of_same (now_any (hWd _))))
          go_wp2
          exact ⟨⟨j + 1, S3, p4, c4, int_succ j, hj, hO3, hWd nq, hR6.kept rfl (fun _ _ => rfl), hpn, drewN_below hB6 nq⟩, meas_1 hj⟩
      by_cases hk2 : x.k = 2
      · go_wp2_with fail
        have hWq := Whl_alloc hW (Obj.cells #[.int .i64 2, .int .i64 x.i, .int .i64 x.p, .int .i64 x.a] 49)
        have hRq := hR.alloc (Obj.cells #[.int .i64 2, .int .i64 x.i, .int .i64 x.p, .int .i64 x.a] 49)
        have hbq : Below w.heap.size w (wr.alloc (Obj.cells #[.int .i64 2, .int .i64 x.i, .int .i64 x.p, .int .i64 x.a] 49)) := hbl.alloc hbl.size _
        have hn := heap_alloc_new wr (Obj.cells #[.int .i64 2, .int .i64 x.i, .int .i64 x.p, .int .i64 x.a] 49)
        have hsq : wr.heap.size < (wr.alloc (Obj.cells #[.int .i64 2, .int .i64 x.i, .int .i64 x.p, .int .i64 x.a] 49)).heap.size := by simp
        clear hW hbl hR z0 z1 z2 z3
        generalize wr.alloc (Obj.cells #[.int .i64 2, .int .i64 x.i, .int .i64 x.p, .int .i64 x.a] 49) = wq at *
        generalize wr.heap.size = hb at *
        have n1 : wq.cell? ⟨hb, 1, none⟩ = some (.int .i64 x.i) := (cell_of_row _ _ 1 _ _ _ hn).trans rfl
        have n3 : wq.cell? ⟨hb, 3, none⟩ = some (.int .i64 x.a) := (cell_of_row _ _ 3 _ _ _ hn).trans rfl
        obtain ⟨b1, b2, b3, b4, b5⟩ := hbx.out
        obtain ⟨u1, u2, u3⟩ := blk_of hpp.out d3 d4 d5
        clear hn
        have hO3 := (hO.can x.i).mono (Nat.le_succ j)
        have hadd := fun wd (hWd : Whl wd pb bm S) => cancel_any (id := x.i) hWd wi.out
        have hradd := fun wd (hRd : Rfl wd mb p c S.now S.L) => rcan_any (id := x.i) hRd hO
        generalize canE S x.i = ev at hadd hradd
        generalize canS S x.i = S3 at *
        have hcq : wq.drew.cell? ⟨hb, 3, none⟩ = some (.int .i64 x.a) ∧ wq.drew.cell? ⟨hb, 1, none⟩ = some (.int .i64 x.i) := ⟨n3, n1⟩
        clear n1 n3
        have hWd : Whl wq.drew pb bm S := Whl_drew hWq
        have hRd : Rfl wq.drew mb p c S.now S.L := hRq.kept rfl (fun _ _ => rfl)
        have hbd : Below w.heap.size w wq.drew := hbq.drew
        have hsd : hb < wq.drew.heap.size := hsq
        clear hWq hRq hbq hsq
        refine Tkc.region_anyC (C := fun w' => w'.cell? ⟨hb, 3, none⟩ = some (.int .i64 x.a) ∧ w'.cell? ⟨hb, 1, none⟩ = some (.int .i64 x.i)) (s := 9) (by kernel_rfl) ?_
        refine Tkc.takeC (i := 0) (v := .pointer (some ⟨pb, 0, none⟩)) rfl (by kernel_rfl) (by kernel_rfl) (by kernel_rfl) (fun _ _ _ h => h) (by decide) (by kernel_rfl) (by kernel_rfl) hcq ⟨by rfl, fun w hw => by have hc3 : w.cell? ⟨hb, 3, none⟩ = some (.int .i64 x.a) := hw.1; have hc1 : w.cell? ⟨hb, 1, none⟩ = some (.int .i64 x.i) := hw.2; go_simp⟩ ?_
        go_frame
        refine Tkc.takeC (i := 1) (v := .pointer (some ⟨hb, 1, none⟩)) rfl (by kernel_rfl) (by kernel_rfl) (by kernel_rfl) (fun _ _ _ h => h) (by decide) (by kernel_rfl) (by kernel_rfl) hcq ⟨by rfl, fun w hw => by have hc3 : w.cell? ⟨hb, 3, none⟩ = some (.int .i64 x.a) := hw.1; have hc1 : w.cell? ⟨hb, 1, none⟩ = some (.int .i64 x.i) := hw.2; go_simp⟩ ?_
        go_frame
        refine Tkc.takeC (i := 2) (v := .int .i64 x.i) rfl (by kernel_rfl) (by kernel_rfl) (by kernel_rfl) (fun _ _ _ h => h) (by decide) (by kernel_rfl) (by kernel_rfl) hcq ⟨by rfl, fun w hw => by have hc3 : w.cell? ⟨hb, 3, none⟩ = some (.int .i64 x.a) := hw.1; have hc1 : w.cell? ⟨hb, 1, none⟩ = some (.int .i64 x.i) := hw.2; go_simp⟩ ?_
        go_frame
        refine Tkc.takeC (i := 4) (v := .pointer (some ⟨mb, 0, none⟩)) rfl (by kernel_rfl) (by kernel_rfl) (by kernel_rfl) (fun _ _ _ h => h) (by decide) (by kernel_rfl) (by kernel_rfl) hcq ⟨by rfl, fun w hw => by have hc3 : w.cell? ⟨hb, 3, none⟩ = some (.int .i64 x.a) := hw.1; have hc1 : w.cell? ⟨hb, 1, none⟩ = some (.int .i64 x.i) := hw.2; go_simp⟩ ?_
        go_frame
        refine Tkc.takeC (i := 5) (v := .pointer (some ⟨hb, 1, none⟩)) rfl (by kernel_rfl) (by kernel_rfl) (by kernel_rfl) (fun _ _ _ h => h) (by decide) (by kernel_rfl) (by kernel_rfl) hcq ⟨by rfl, fun w hw => by have hc3 : w.cell? ⟨hb, 3, none⟩ = some (.int .i64 x.a) := hw.1; have hc1 : w.cell? ⟨hb, 1, none⟩ = some (.int .i64 x.i) := hw.2; go_simp⟩ ?_
        go_frame
        refine Tkc.takeC (i := 6) (v := .int .i64 x.i) rfl (by kernel_rfl) (by kernel_rfl) (by kernel_rfl) (fun _ _ _ h => h) (by decide) (by kernel_rfl) (by kernel_rfl) hcq ⟨by rfl, fun w hw => by have hc3 : w.cell? ⟨hb, 3, none⟩ = some (.int .i64 x.a) := hw.1; have hc1 : w.cell? ⟨hb, 1, none⟩ = some (.int .i64 x.i) := hw.2; go_simp⟩ ?_
        go_frame
        generalize wq.drew = wd at *
        refine Tkc.onlyC (i := 3) rfl (by kernel_rfl) (fun _ => hcq) (by rfl) (fun K hK => ?_)
        go_simp
        refine (hadd _ hWd).mono ?_
        rintro e w3 ⟨rfl, hW3, hK3⟩
        refine hK _ _ ?_
        clear hK K
        have hc3 : w3.cell? ⟨hb, 3, none⟩ = some (.int .i64 x.a) ∧ w3.cell? ⟨hb, 1, none⟩ = some (.int .i64 x.i) := ⟨kp_cell hK3 hcq.1 (show hb ≠ pb by omega) (show hb ≠ bm by omega), kp_cell hK3 hcq.2 (show hb ≠ pb by omega) (show hb ≠ bm by omega)⟩
        have hR3 : Rfl w3 mb p c S.now S.L := Rfl_kp hRd hK3 d4 d5 hpp.out
        have hB3 : Below w.heap.size w w3 := hbd.trans (hK3.below d1 d2 hbd.size)
        have hs3 := hK3.size
        try go_frame
        refine Tkc.onlyC (i := 7) rfl (by kernel_rfl) (fun _ => hc3) (by rfl) (fun K hK => ?_)
        go_simp
        refine (hradd _ hR3).mono ?_
        rintro e w4 ⟨rfl, p4, c4, hR4, hK4, hp4⟩
        refine hK _ _ ?_
        clear hK K
        have hc4 : w4.cell? ⟨hb, 3, none⟩ = some (.int .i64 x.a) ∧ w4.cell? ⟨hb, 1, none⟩ = some (.int .i64 x.i) := ⟨kp_cell hK4 hc3.1 (show hb ≠ mb by omega) (show hb ≠ blk p mb by omega), kp_cell hK4 hc3.2 (show hb ≠ mb by omega) (show hb ≠ blk p mb by omega)⟩
        try go_frame
        refine Tkc.onlyC (i := 8) rfl (by kernel_rfl) (fun _ => hc4) (by rfl) (fun K hK => ?_)
        go_simp
        refine hK _ _ ?_
        clear hK K
        refine Tkc.doneC (by kernel_rfl) (fun _ => hc4) ?_
        have hW4 : Whl w4 pb bm S3 := hK4.other hW3 (Ne.symm d4) (Ne.symm u2) (Ne.symm d5) (Ne.symm u3)
        have hB4 : Below w.heap.size w w4 := hB3.trans (hK4.below d3 u1 hB3.size)
        have hpn : Hid (∀ a : Addr, p4 = some a → w.heap.size ≤ a.block ∧ a.block ≠ pb ∧ a.block ≠ bm) := pp_new hpp.out hp4 hB3.size hW3.lt hW3.ltm
        clear hcq hc3 hc4 hK3 hK4 hp4 hWd hRd hbd hR3 hW3 hB3 hpp hs3 hsd
        go_wp2_with fail
        have hnx := next_any hW4
        have hl3 := hO3.len
        go_wp2_with (go_at_call 13; refine hnx.mono ?_; rintro e w5 ⟨rfl, hb5⟩)
        have hW5 := hW4.below hb5 hW4.lt hW4.ltm
        have hR5 := hR4.below hb5
        have hB5 : Below w.heap.size w w5 := hB4.trans (hb5.mono hB4.size)
        refine (rnext_any hR5 (by omega)).mono ?_
        rintro e w6 ⟨rfl, hb6⟩
        have hW6 := hW5.below hb6 hW5.lt hW5.ltm
        have hR6 := hR5.below hb6
        have hB6 : Below w.heap.size w w6 := hB5.trans (hb6.mono hB5.size)
        clear hnx hW5 hR5 hB5 hW4 hR4 hB4 hb5 hb6
        generalize leastA S3.L = la at *
        generalize someB S3.L = sb at *
        have hWd := fun q => whl_drewN' hW6 q
        have c0 := hR6.c0
        cases sb
        · go_wp2_with fail
          go_quiet ((go_at_call 9; refine Calls.quiet_of_same (now_any (hWd _))))
          go_wp2
          exact ⟨⟨j + 1, S3, p4, c4, int_succ j, hj, hO3, hWd nq, hR6.kept rfl (fun _ _ => rfl), hpn, drewN_below hB6 nq⟩, meas_1 hj⟩
        · go_wp2_with fail
          go_quiet ((go_at_call 9; refine Calls.quiet_of_same (now_any (hWd _))))
          go_wp2
          exact ⟨⟨j + 1, S3, p4, c4, int_succ j, hj, hO3, hWd nq, hR6.kept rfl (fun _ _ => rfl), hpn, drewN_below hB6 nq⟩, meas_1 hj⟩
      go_wp2_with fail
      have hWq := Whl_alloc hW (Obj.cells #[.int .i64 x.k, .int .i64 x.i, .int .i64 x.p, .int .i64 x.a] 49)
      have hRq := hR.alloc (Obj.cells #[.int .i64 x.k, .int .i64 x.i, .int .i64 x.p, .int .i64 x.a] 49)
      have hbq : Below w.heap.size w (wr.alloc (Obj.cells #[.int .i64 x.k, .int .i64 x.i, .int .i64 x.p, .int .i64 x.a] 49)) := hbl.alloc hbl.size _
      have hn := heap_alloc_new wr (Obj.cells #[.int .i64 x.k, .int .i64 x.i, .int .i64 x.p, .int .i64 x.a] 49)
      have hsq : wr.heap.size < (wr.alloc (Obj.cells #[.int .i64 x.k, .int .i64 x.i, .int .i64 x.p, .int .i64 x.a] 49)).heap.size := by simp
      clear hW hbl hR z0 z1 z2 z3
      generalize wr.alloc (Obj.cells #[.int .i64 x.k, .int .i64 x.i, .int .i64 x.p, .int .i64 x.a] 49) = wq at *
      generalize wr.heap.size = hb at *
      have n1 : wq.cell? ⟨hb, 1, none⟩ = some (.int .i64 x.i) := (cell_of_row _ _ 1 _ _ _ hn).trans rfl
      have n3 : wq.cell? ⟨hb, 3, none⟩ = some (.int .i64 x.a) := (cell_of_row _ _ 3 _ _ _ hn).trans rfl
      obtain ⟨b1, b2, b3, b4, b5⟩ := hbx.out
      obtain ⟨u1, u2, u3⟩ := blk_of hpp.out d3 d4 d5
      clear hn
      by_cases hbad : x.a < 0 ∨ 16777216 < x.a
      · have hadv := adv_bad (w := wq) (pb := pb) hbad
        have hrad := radv_bad (w := wq) (mb := mb) hbad
        have hO3 := hO.mono (Nat.le_succ j)
        clear hbad
        refine hadv.mono ?_
        rintro e w3 ⟨rfl, hw3⟩
        rw [hw3]
        clear hw3 hadv
        go_wp2_with fail
        refine hrad.mono ?_
        rintro e w4 ⟨rfl, hw4⟩
        rw [hw4]
        clear hw4 hrad
        have heq := equal_any (w := wq) (F := []) (p1 := none) (c1 := 0) (p2 := none) (c2 := 0) (B1 := 0) (B2 := 0) (World.ownsRow_nil _ _ _ _) (World.ownsRow_nil _ _ _ _) (by simp)
        simp only [List.length_nil] at heq
        clear n1 n3
        go_wp2_with fail
        refine heq.mono ?_
        rintro e w4 ⟨rfl, hbe⟩
        have hW4 := hWq.below hbe hWq.lt hWq.ltm
        have hR4 := hRq.below hbe
        have hB4 : Below w.heap.size w w4 := hbq.trans (hbe.mono hbq.size)
        clear heq hWq hRq hbq hbe hsq
        go_wp2_with fail
        have hnx := next_any hW4
        have hl3 := hO3.len
        go_wp2_with (go_at_call 13; refine hnx.mono ?_; rintro e w5 ⟨rfl, hb5⟩)
        have hW5 := hW4.below hb5 hW4.lt hW4.ltm
        have hR5 := hR4.below hb5
        have hB5 : Below w.heap.size w w5 := hB4.trans (hb5.mono hB4.size)
        refine (rnext_any hR5 (by omega)).mono ?_
        rintro e w6 ⟨rfl, hb6⟩
        have hW6 := hW5.below hb6 hW5.lt hW5.ltm
        have hR6 := hR5.below hb6
        have hB6 : Below w.heap.size w w6 := hB5.trans (hb6.mono hB5.size)
        clear hnx hW5 hR5 hB5 hW4 hR4 hB4 hb5 hb6
        generalize leastA S.L = la at *
        generalize someB S.L = sb at *
        have hWd := fun q => whl_drewN' hW6 q
        have c0 := hR6.c0
        cases sb
        · go_wp2_with fail
          go_quiet ((go_at_call 9; refine Calls.quiet_of_same (now_any (hWd _))))
          go_wp2
          exact ⟨⟨j + 1, S, p, c, int_succ j, hj, hO3, hWd nq, hR6.kept rfl (fun _ _ => rfl), hpp, drewN_below hB6 nq⟩, meas_1 hj⟩
        · go_wp2_with fail
          go_quiet ((go_at_call 9; refine Calls.quiet_of_same (now_any (hWd _))))
          go_wp2
          exact ⟨⟨j + 1, S, p, c, int_succ j, hj, hO3, hWd nq, hR6.kept rfl (fun _ _ => rfl), hpp, drewN_below hB6 nq⟩, meas_1 hj⟩
      · have hadv := adv_ok2 (n := x.a) hWq hO (by have := hj2.out; omega) (by omega) (by omega)
        have hO3 : Ok (j + 1) (advS S x.a) := hO.adv (by omega) (by omega)
        have hrad := fun wd (hRd : Rfl wd mb p c S.now S.L) => radv_ok2 (n := x.a) hRd hO (by have := hj2.out; omega) (by omega) (by omega)
        have hlenF := due_len hO x.a
        generalize dueL S x.a = F at *
        generalize advS S x.a = S3 at *
        clear hbad
        refine hadv.mono ?_
        rintro e w3 ⟨p1, c1, rfl, r1, hW3, hK3⟩
        have hR3 : Rfl w3 mb p c S.now S.L := Rfl_kp hRq hK3 d4 d5 hpp.out
        have m3 := kp_cell hK3 n3 (show hb ≠ pb by omega) (show hb ≠ bm by omega)
        have hB3 : Below w.heap.size w w3 := hbq.trans (hK3.below d1 d2 hbq.size)
        clear hadv n1 n3
        go_wp2_with fail
        refine (hrad _ hR3).mono ?_
        rintro e w4 ⟨p2, c2, p4, c4, rfl, r2, hR4', hK4, hp4⟩
        have r14 := row_kp r1 hK4 (by omega) (by omega)
        have hW4' : Whl w4 pb bm S3 := hK4.other hW3 (Ne.symm d4) (Ne.symm u2) (Ne.symm d5) (Ne.symm u3)
        have hB4' : Below w.heap.size w w4 := hB3.trans (hK4.below d3 u1 hB3.size)
        have hpn : Hid (∀ a : Addr, p4 = some a → w.heap.size ≤ a.block ∧ a.block ≠ pb ∧ a.block ≠ bm) := pp_new hpp.out hp4 hB3.size hW3.lt hW3.ltm
        have heq := equal_any r14 r2 (by omega)
        clear hrad hK3 hK4 hp4 hR3 hW3 hB3 hpp r1 r2 r14 m3 hWq hRq hbq
        go_wp2_with fail
        refine heq.mono ?_
        rintro e w9 ⟨rfl, hbe⟩
        have hW4 := hW4'.below hbe hW4'.lt hW4'.ltm
        have hR4 := hR4'.below hbe
        have hB4 : Below w.heap.size w w9 := hB4'.trans (hbe.mono hB4'.size)
        clear heq hW4' hR4' hB4' hbe
        go_wp2_with fail
        have hnx := next_any hW4
        have hl3 := hO3.len
        go_wp2_with (go_at_call 13; refine hnx.mono ?_; rintro e w5 ⟨rfl, hb5⟩)
        have hW5 := hW4.below hb5 hW4.lt hW4.ltm
        have hR5 := hR4.below hb5
        have hB5 : Below w.heap.size w w5 := hB4.trans (hb5.mono hB4.size)
        refine (rnext_any hR5 (by omega)).mono ?_
        rintro e w6 ⟨rfl, hb6⟩
        have hW6 := hW5.below hb6 hW5.lt hW5.ltm
        have hR6 := hR5.below hb6
        have hB6 : Below w.heap.size w w6 := hB5.trans (hb6.mono hB5.size)
        clear hnx hW5 hR5 hB5 hW4 hR4 hB4 hb5 hb6
        generalize leastA S3.L = la at *
        generalize someB S3.L = sb at *
        have hWd := fun q => whl_drewN' hW6 q
        have c0 := hR6.c0
        cases sb
        · go_wp2_with fail
          go_quiet ((go_at_call 9; refine Calls.quiet_of_same (now_any (hWd _))))
          go_wp2
          exact ⟨⟨j + 1, S3, p4, c4, int_succ j, hj, hO3, hWd nq, hR6.kept rfl (fun _ _ => rfl), hpn, drewN_below hB6 nq⟩, meas_1 hj⟩
        · go_wp2_with fail
          go_quiet ((go_at_call 9; refine Calls.quiet_of_same (now_any (hWd _))))
          go_wp2
          exact ⟨⟨j + 1, S3, p4, c4, int_succ j, hj, hO3, hWd nq, hR6.kept rfl (fun _ _ => rfl), hpn, drewN_below hB6 nq⟩, meas_1 hj⟩
    · have hji : ¬ (j : Int) < (l.length : Int) := by omega
      go_wp2
      go_ret
      exact ⟨rfl, hbl⟩
end Go.Proofs.Ytejfogajlddaeaa
