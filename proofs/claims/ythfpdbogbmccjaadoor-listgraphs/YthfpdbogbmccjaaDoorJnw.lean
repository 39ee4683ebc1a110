/- Package list: newWork. -/
import Derived.Test.YthfpdbogbmccjaaDoorJnt
namespace Go.Proofs.YthfpdbogbmccjaaDoor
open Go.RowKit Gm Pm
set_option linter.unusedSectionVars false
set_option linter.unusedVariables false

set_option maxHeartbeats 40000000 in
set_option maxRecDepth 100000 in
theorem newWork_any {w : World} {q pd : Option Addr} {l : List Ed} {d : List Int} {n m cap cd : Nat} (h : Eds w q l) (hg : Gr n l) (hl : l.length ≤ 400) (hd : Nums w pd d) (hdn : d.length = n) (hm : m ≤ 20) :
    Calls Tryd.prog 13 #[.int .i64 (m : Int), .slice q l.length cap, .slice pd n cd] w fun e w' => (∃ gp gA gE gF gT B, e = .returned (.pointer (some ⟨gp, 0, none⟩)) ∧ Wk w' w.heap.size gp gA gE gF gT B pd cd n m l d wst0) ∧ Below w.heap.size w w' := by
  have hgH : Hid (Gr n l) := hg
  have hlH : Hid (l.length ≤ 400) := hl
  have hmH : Hid (m ≤ 20) := hm
  have hnH : Hid (n ≤ 60) := hg.n60
  have hdnH : Hid (d.length = n) := hdn
  have hEb : Hid (∀ w1, Below w.heap.size w w1 → Eds w1 q l) := fun w1 hb => h.below hb (Nat.le_refl _)
  have hdb : Hid (∀ w1, Below w.heap.size w w1 → Nums w1 pd d) := fun w1 hb => hd.below hb (Nat.le_refl _)
  clear h hg hl hd hdn hm
  go_enter Tryd.func13, Tryd.ntmps13
  go_upto_region 2 with fail
  rename_i K' hK'
  have key : Hid (∀ (gp gA gE gF gT : Nat) (w5 : World), Mw w w5 gp gA gE gF gT n m pd cd → K' { tmps := ((Value.int .i64 (m : Int)) :: (Value.slice q l.length cap) :: (Value.slice pd n cd) :: undef :: undef :: undef :: (Value.pointer none) :: (Value.int .i64 (n : Int)) :: (Value.pointer (some ⟨gp, 0, none⟩)) :: undef :: undef :: undef :: (Value.slice pd n cd) :: (Value.int .i64 (n : Int)) :: (Value.slice pd n cd) :: (Value.int .i64 (n : Int)) :: (Value.slice (some ⟨gA, 0, none⟩) n n) :: (Value.int .i64 (n : Int)) :: (Value.slice (some ⟨gE, 0, none⟩) n n) :: (Value.int .i64 (m : Int)) :: (Value.slice (some ⟨gF, 0, none⟩) m m) :: (Value.int .i64 (n : Int)) :: (Value.slice (some ⟨gT, 0, none⟩) n n) :: (Value.agg #[.slice pd n cd, .slice (some ⟨gA, 0, none⟩) n n, .slice (some ⟨gE, 0, none⟩) n n, .slice (some ⟨gF, 0, none⟩) m m, .slice (some ⟨gT, 0, none⟩) n n]) :: (Value.pointer (some ⟨gp, 0, none⟩)) :: undef :: undef :: undef :: undef :: undef :: undef :: undef :: undef :: undef :: undef :: undef :: undef :: undef :: undef :: undef :: undef :: undef :: undef :: undef :: undef :: undef :: undef :: undef :: undef :: undef :: undef :: undef :: undef :: undef :: undef :: undef :: undef :: undef :: undef :: undef :: undef :: undef :: undef :: undef :: undef :: undef :: undef :: []).toArray, defers := [] } w5) := by
    intro gp gA gE gF gT w5 hMw
    refine hK' _ _ ?_
    clear hK'
    have hMH : Hid (Mw w w5 gp gA gE gF gT n m pd cd) := hMw
    have hgA : Hid (gA < w5.heap.size) := hMw.lt.2.1
    have hgp : Hid (gp < w5.heap.size ∧ gp ≠ gA) := ⟨hMw.lt.1, hMw.ap.2.2.2.2.2.2.2.2.2⟩
    have hlo : Hid (w.heap.size ≤ gA) := hMw.lo.2.1
    have hs5 : Hid (w.heap.size ≤ w5.heap.size) := hMw.b.size
    have hp5 : Hid (w5.cell? ⟨gp, 1, none⟩ = some (.slice (some ⟨gA, 0, none⟩) n n)) := (cell_of_row _ _ 1 _ _ _ hMw.p).trans rfl
    clear hMw
    go_wp2
    go_loopw [27] (fun iv wr => ∃ (j : Nat) (v : Nat → Value), iv = .int .i64 j ∧ j ≤ l.length ∧ NxB wr w.heap.size w5.heap.size gA n (suc (trn (l.take j))) v ∧ Oth w5.heap.size gA w5 wr ∧ w5.heap.size ≤ wr.heap.size ∧ Below w.heap.size w wr)
      (fun iv _ => l.length - (intOf iv).toNat)
    case atStart => exact ⟨0, fun _ => .slice none 0 0, rfl, Nat.zero_le _, hMH.out.rows hnH.out, fun _ _ _ => rfl, Nat.le_refl _, hMH.out.b⟩
    case round =>
    obtain ⟨j, v, rfl, hjl, hN, hO, hsz, hbl⟩ := hrel
    by_cases hj : j < l.length
    · have hok := hgH.out.ok _ (ed_mem hj)
      rcases hEb.out wr hbl with hh0 | ⟨eb, eo, rfl, hAr⟩
      · omega
      have z0 := hAr.cf j hj
      have z1 := hAr.ct j hj
      have hji : (j : Int) < (l.length : Int) := by omega
      have hj2 : Hid (j ≤ 100000) := by have := hlH.out; show _ ≤ _; omega
      obtain ⟨F, hF⟩ : ∃ F : Nat, (ed l j).f = (F : Int) := ⟨(ed l j).f.toNat, by omega⟩
      obtain ⟨T, hT⟩ : ∃ T : Nat, (ed l j).t = (T : Int) := ⟨(ed l j).t.toNat, by omega⟩
      have hTn : Hid (T < n) := by show _ < _; omega
      have hstep : Hid (suc (trn (l.take (j + 1))) = fun i => if i = T then suc (trn (l.take j)) T ++ [F] else suc (trn (l.take j)) i) := by
        show _ = _
        funext i
        have e1 : trn (l.take (j + 1)) = trn (l.take j) ++ [⟨(ed l j).t, (ed l j).f⟩] := by rw [take_snoc hj]; unfold trn; rw [List.map_append]; rfl
        rw [e1, suc_snoc]
        show _ ++ (if (ed l j).t = (i : Int) then [(ed l j).f.toNat] else []) = _
        rw [hF, hT, Int.toNat_natCast]
        by_cases e : i = T
        · subst e; simp
        · have : ¬ ((T : Int) = (i : Int)) := by omega
          simp [e, this]
      rw [hF] at z0
      rw [hT] at z1
      have hsl : Hid ((suc (trn (l.take j)) T).length ≤ 400) := by have := suc_len (trn (l.take j)) T; rw [trn_len] at this; have := hlH.out; simp at *; show _ ≤ _; omega
      have hszH : Hid (w5.heap.size ≤ wr.heap.size) := hsz
      have hOH : Hid (Oth w5.heap.size gA w5 wr) := hO
      have hTi : (T : Int) < (n : Int) := by omega
      have hT0 : ¬ (T : Int) < 0 := by omega
      have hTg : ¬ (n : Int) ≤ (T : Int) := by omega
      have hNA := hN.alloc (.cells #[.int .i64 (F : Int), .int .i64 (T : Int)] 52)
      have hBA : Below w.heap.size w (wr.alloc (.cells #[.int .i64 (F : Int), .int .i64 (T : Int)] 52)) := hbl.alloc hbl.size _
      have hn := heap_alloc_new wr (.cells #[.int .i64 (F : Int), .int .i64 (T : Int)] 52)
      have hne : Hid (∀ b, (v T).ownBlock = some b → b ≠ wr.heap.size) := fun b hb => by have := ((hN.inn T hTn.out).lt b hb).2; omega
      have hOA : Hid (Oth w5.heap.size gA w5 (wr.alloc (.cells #[.int .i64 (F : Int), .int .i64 (T : Int)] 52))) := fun k h1 h2 => (Below.heap_alloc _ _ _ (by omega)).trans (hO k h1 h2)
      have hj1 : Hid (j < l.length) := hj
      clear hAr hok hF hT hN hbl hO hsz hj
      generalize suc (trn (l.take j)) = s at *
      go_wp2
      clear z0 z1
      have hsA : Hid (wr.heap.size < (wr.alloc (.cells #[.int .i64 (F : Int), .int .i64 (T : Int)] 52)).heap.size) := by show _ < _; simp
      generalize wr.alloc (.cells #[.int .i64 (F : Int), .int .i64 (T : Int)] 52) = wz at *
      generalize wr.heap.size = hc at *
      have k0 : wz.cell? ⟨hc, 0, none⟩ = some (.int .i64 (F : Int)) := (cell_of_row _ _ 0 _ _ _ hn).trans rfl
      have k1 : wz.cell? ⟨hc, 1, none⟩ = some (.int .i64 (T : Int)) := (cell_of_row _ _ 1 _ _ _ hn).trans rfl
      have kF : wz.cell? ⟨gA, T, none⟩ = some (v T) := by rw [hNA.out.cellAt T (by have := hTn.out; omega), vals_get hTn.out]
      have kp : wz.cell? ⟨gp, 1, none⟩ = some (.slice (some ⟨gA, 0, none⟩) n n) := (World.cell?_of_block (w := w5) (hOA.out gp hgp.out.1 hgp.out.2)).trans hp5.out
      obtain ⟨pF, cF, hvF⟩ := own_form (hNA.inn T hTn.out)
      rw [hvF] at kF
      clear hn
      obtain ⟨mm, hm⟩ : ∃ mm, (s T).length = mm := ⟨_, rfl⟩
      have hmmH : Hid ((s T).length = mm) := hm
      rw [hm] at kF hsl
      have hNd : Hid (NxB wz.drew w.heap.size w5.heap.size gA n s v) := hNA.drew
      have hBd : Hid (Below w.heap.size w wz.drew) := hBA.drew
      have hOd : Hid (Oth w5.heap.size gA w5 wz.drew) := hOA.out
      have hsd : Hid (w5.heap.size < wz.drew.heap.size) := by have h1 := hszH.out; have h2 : hc < wz.drew.heap.size := hsA.out; show _ < _; omega
      have hcz : wz.drew.cell? ⟨hc, 0, none⟩ = some (.int .i64 (F : Int)) ∧ wz.drew.cell? ⟨hc, 1, none⟩ = some (.int .i64 (T : Int)) ∧ wz.drew.cell? ⟨gA, T, none⟩ = some (.slice pF mm cF) ∧ wz.drew.cell? ⟨gp, 1, none⟩ = some (.slice (some ⟨gA, 0, none⟩) n n) := ⟨k0, k1, kF, kp⟩
      have hrow := hNd.out.inn T hTn.out
      rw [hvF, hm] at hrow
      have hvH : Hid (v T = Value.slice pF (s T).length cF) := hvF
      have hgc : Hid (w5.heap.size ≤ hc) := hszH.out
      have hrne : Hid (∀ b, Value.ownBlock (.slice pF mm cF) = some b → b ≠ hc) := fun b hb => by
        have := hne.out b (by rw [hvH.out, hmmH.out]; exact hb); exact this
      clear hvF hm hNA hBA kF k0 k1 kp hsA
      refine Tkc.region_anyC (C := fun w' => w'.cell? ⟨hc, 0, none⟩ = some (.int .i64 (F : Int)) ∧ w'.cell? ⟨hc, 1, none⟩ = some (.int .i64 (T : Int)) ∧ w'.cell? ⟨gA, T, none⟩ = some (.slice pF mm cF) ∧ w'.cell? ⟨gp, 1, none⟩ = some (.slice (some ⟨gA, 0, none⟩) n n)) (s := 18) (by kernel_rfl) ?_
      generalize wz.drew = wy at *
      refine Tkc.takeC (i := 0) (oi := { dst := some 31, op := Op.move (Operand.tmp 8), type := 40, pos := "list.go:155", after := #[], guard := none }) (v := .pointer (some ⟨gp, 0, none⟩)) (by kernel_rfl) (by kernel_rfl) (by kernel_rfl) (by kernel_rfl) (fun _ _ _ h => h) (by decide) (by kernel_rfl) (by kernel_rfl) hcz ⟨by kernel_rfl, fun w hw => by obtain ⟨q0, q1, q2, q3⟩ := hw; go_simp⟩ ?_
      simp only [Act.put, List.setIfInBounds_toArray, List.set_cons_succ, List.set_cons_zero]
      refine Tkc.takeC (i := 1) (oi := { dst := some 32, op := Op.nilCheck (Operand.tmp 31), type := 0, pos := "list.go:155", after := #[{ on := 0, ground := Ground.data }], guard := none }) (v := .pointer (some ⟨gp, 0, none⟩)) (by kernel_rfl) (by kernel_rfl) (by kernel_rfl) (by kernel_rfl) (fun _ _ _ h => h) (by decide) (by kernel_rfl) (by kernel_rfl) hcz ⟨by kernel_rfl, fun w hw => by obtain ⟨q0, q1, q2, q3⟩ := hw; go_simp⟩ ?_
      simp only [Act.put, List.setIfInBounds_toArray, List.set_cons_succ, List.set_cons_zero]
      refine Tkc.takeC (i := 2) (oi := { dst := some 33, op := Op.fieldAddr 45 (Operand.tmp 32) 1, type := 0, pos := "list.go:155", after := #[{ on := 1, ground := Ground.data }], guard := none }) (v := .pointer (some ⟨gp, 1, none⟩)) (by kernel_rfl) (by kernel_rfl) (by kernel_rfl) (by kernel_rfl) (fun _ _ _ h => h) (by decide) (by kernel_rfl) (by kernel_rfl) hcz ⟨by kernel_rfl, fun w hw => by obtain ⟨q0, q1, q2, q3⟩ := hw; go_simp⟩ ?_
      simp only [Act.put, List.setIfInBounds_toArray, List.set_cons_succ, List.set_cons_zero]
      refine Tkc.takeC (i := 3) (oi := { dst := some 34, op := Op.load 43 (Operand.tmp 33), type := 43, pos := "list.go:155", after := #[{ on := 2, ground := Ground.data }], guard := none }) (v := .slice (some ⟨gA, 0, none⟩) n n) (by kernel_rfl) (by kernel_rfl) (by kernel_rfl) (by kernel_rfl) (fun _ _ _ h => h) (by decide) (by kernel_rfl) (by kernel_rfl) hcz ⟨by kernel_rfl, fun w hw => by obtain ⟨q0, q1, q2, q3⟩ := hw; go_simp⟩ ?_
      simp only [Act.put, List.setIfInBounds_toArray, List.set_cons_succ, List.set_cons_zero]
      refine Tkc.takeC (i := 4) (oi := { dst := some 35, op := Op.fieldAddr 52 (Operand.tmp 10) 1, type := 0, pos := "list.go:155", after := #[], guard := none }) (v := .pointer (some ⟨hc, 1, none⟩)) (by kernel_rfl) (by kernel_rfl) (by kernel_rfl) (by kernel_rfl) (fun _ _ _ h => h) (by decide) (by kernel_rfl) (by kernel_rfl) hcz ⟨by kernel_rfl, fun w hw => by obtain ⟨q0, q1, q2, q3⟩ := hw; go_simp⟩ ?_
      simp only [Act.put, List.setIfInBounds_toArray, List.set_cons_succ, List.set_cons_zero]
      refine Tkc.takeC (i := 5) (oi := { dst := some 36, op := Op.load 3 (Operand.tmp 35), type := 3, pos := "list.go:155", after := #[{ on := 4, ground := Ground.data }], guard := none }) (v := .int .i64 (T : Int)) (by kernel_rfl) (by kernel_rfl) (by kernel_rfl) (by kernel_rfl) (fun _ _ _ h => h) (by decide) (by kernel_rfl) (by kernel_rfl) hcz ⟨by kernel_rfl, fun w hw => by obtain ⟨q0, q1, q2, q3⟩ := hw; go_simp⟩ ?_
      simp only [Act.put, List.setIfInBounds_toArray, List.set_cons_succ, List.set_cons_zero]
      refine Tkc.takeC (i := 6) (oi := { dst := some 37, op := Op.move (Operand.tmp 8), type := 40, pos := "list.go:155", after := #[], guard := none }) (v := .pointer (some ⟨gp, 0, none⟩)) (by kernel_rfl) (by kernel_rfl) (by kernel_rfl) (by kernel_rfl) (fun _ _ _ h => h) (by decide) (by kernel_rfl) (by kernel_rfl) hcz ⟨by kernel_rfl, fun w hw => by obtain ⟨q0, q1, q2, q3⟩ := hw; go_simp⟩ ?_
      simp only [Act.put, List.setIfInBounds_toArray, List.set_cons_succ, List.set_cons_zero]
      refine Tkc.takeC (i := 7) (oi := { dst := some 38, op := Op.nilCheck (Operand.tmp 37), type := 0, pos := "list.go:155", after := #[{ on := 6, ground := Ground.data }], guard := none }) (v := .pointer (some ⟨gp, 0, none⟩)) (by kernel_rfl) (by kernel_rfl) (by kernel_rfl) (by kernel_rfl) (fun _ _ _ h => h) (by decide) (by kernel_rfl) (by kernel_rfl) hcz ⟨by kernel_rfl, fun w hw => by obtain ⟨q0, q1, q2, q3⟩ := hw; go_simp⟩ ?_
      simp only [Act.put, List.setIfInBounds_toArray, List.set_cons_succ, List.set_cons_zero]
      refine Tkc.takeC (i := 8) (oi := { dst := some 39, op := Op.fieldAddr 45 (Operand.tmp 38) 1, type := 0, pos := "list.go:155", after := #[{ on := 7, ground := Ground.data }], guard := none }) (v := .pointer (some ⟨gp, 1, none⟩)) (by kernel_rfl) (by kernel_rfl) (by kernel_rfl) (by kernel_rfl) (fun _ _ _ h => h) (by decide) (by kernel_rfl) (by kernel_rfl) hcz ⟨by kernel_rfl, fun w hw => by obtain ⟨q0, q1, q2, q3⟩ := hw; go_simp⟩ ?_
      simp only [Act.put, List.setIfInBounds_toArray, List.set_cons_succ, List.set_cons_zero]
      refine Tkc.takeC (i := 9) (oi := { dst := some 40, op := Op.load 43 (Operand.tmp 39), type := 43, pos := "list.go:155", after := #[{ on := 8, ground := Ground.data }], guard := none }) (v := .slice (some ⟨gA, 0, none⟩) n n) (by kernel_rfl) (by kernel_rfl) (by kernel_rfl) (by kernel_rfl) (fun _ _ _ h => h) (by decide) (by kernel_rfl) (by kernel_rfl) hcz ⟨by kernel_rfl, fun w hw => by obtain ⟨q0, q1, q2, q3⟩ := hw; go_simp⟩ ?_
      simp only [Act.put, List.setIfInBounds_toArray, List.set_cons_succ, List.set_cons_zero]
      refine Tkc.takeC (i := 10) (oi := { dst := some 41, op := Op.fieldAddr 52 (Operand.tmp 10) 1, type := 0, pos := "list.go:155", after := #[], guard := none }) (v := .pointer (some ⟨hc, 1, none⟩)) (by kernel_rfl) (by kernel_rfl) (by kernel_rfl) (by kernel_rfl) (fun _ _ _ h => h) (by decide) (by kernel_rfl) (by kernel_rfl) hcz ⟨by kernel_rfl, fun w hw => by obtain ⟨q0, q1, q2, q3⟩ := hw; go_simp⟩ ?_
      simp only [Act.put, List.setIfInBounds_toArray, List.set_cons_succ, List.set_cons_zero]
      refine Tkc.takeC (i := 11) (oi := { dst := some 42, op := Op.load 3 (Operand.tmp 41), type := 3, pos := "list.go:155", after := #[{ on := 10, ground := Ground.data }], guard := none }) (v := .int .i64 (T : Int)) (by kernel_rfl) (by kernel_rfl) (by kernel_rfl) (by kernel_rfl) (fun _ _ _ h => h) (by decide) (by kernel_rfl) (by kernel_rfl) hcz ⟨by kernel_rfl, fun w hw => by obtain ⟨q0, q1, q2, q3⟩ := hw; go_simp⟩ ?_
      simp only [Act.put, List.setIfInBounds_toArray, List.set_cons_succ, List.set_cons_zero]
      refine Tkc.takeC (i := 12) (oi := { dst := some 43, op := Op.indexAddr 43 (Operand.tmp 40) (Operand.tmp 42), type := 0, pos := "list.go:155", after := #[{ on := 9, ground := Ground.data }, { on := 11, ground := Ground.data }], guard := none }) (v := .pointer (some ⟨gA, T, none⟩)) (by kernel_rfl) (by kernel_rfl) (by kernel_rfl) (by kernel_rfl) (fun _ _ _ h => h) (by decide) (by kernel_rfl) (by kernel_rfl) hcz ⟨by kernel_rfl, fun w hw => by obtain ⟨q0, q1, q2, q3⟩ := hw; go_simp⟩ ?_
      simp only [Act.put, List.setIfInBounds_toArray, List.set_cons_succ, List.set_cons_zero]
      refine Tkc.takeC (i := 13) (oi := { dst := some 44, op := Op.load 47 (Operand.tmp 43), type := 47, pos := "list.go:155", after := #[{ on := 12, ground := Ground.data }], guard := none }) (v := .slice pF mm cF) (by kernel_rfl) (by kernel_rfl) (by kernel_rfl) (by kernel_rfl) (fun _ _ _ h => h) (by decide) (by kernel_rfl) (by kernel_rfl) hcz ⟨by kernel_rfl, fun w hw => by obtain ⟨q0, q1, q2, q3⟩ := hw; go_simp⟩ ?_
      simp only [Act.put, List.setIfInBounds_toArray, List.set_cons_succ, List.set_cons_zero]
      refine Tkc.takeC (i := 14) (oi := { dst := some 45, op := Op.fieldAddr 52 (Operand.tmp 10) 0, type := 0, pos := "list.go:155", after := #[], guard := none }) (v := .pointer (some ⟨hc, 0, none⟩)) (by kernel_rfl) (by kernel_rfl) (by kernel_rfl) (by kernel_rfl) (fun _ _ _ h => h) (by decide) (by kernel_rfl) (by kernel_rfl) hcz ⟨by kernel_rfl, fun w hw => by obtain ⟨q0, q1, q2, q3⟩ := hw; go_simp⟩ ?_
      simp only [Act.put, List.setIfInBounds_toArray, List.set_cons_succ, List.set_cons_zero]
      refine Tkc.takeC (i := 15) (oi := { dst := some 46, op := Op.load 3 (Operand.tmp 45), type := 3, pos := "list.go:155", after := #[{ on := 14, ground := Ground.data }], guard := none }) (v := .int .i64 (F : Int)) (by kernel_rfl) (by kernel_rfl) (by kernel_rfl) (by kernel_rfl) (fun _ _ _ h => h) (by decide) (by kernel_rfl) (by kernel_rfl) hcz ⟨by kernel_rfl, fun w hw => by obtain ⟨q0, q1, q2, q3⟩ := hw; go_simp⟩ ?_
      simp only [Act.put, List.setIfInBounds_toArray, List.set_cons_succ, List.set_cons_zero]
      refine Tkc.onlyC (i := 16) (o := { dst := some 47, op := Op.buildSlice 47 1 #[(0, Operand.tmp 46)], type := 47, pos := "list.go:155", after := #[{ on := 15, ground := Ground.data }], guard := none }) (by kernel_rfl) (by kernel_rfl) (fun _ => hcz) (by kernel_rfl) (fun K hK => ?_)
      go_simp
      refine hK _ _ ?_
      clear hK K
      have hcA : (wy.alloc (.cells #[.int .i64 (F : Int)] 3)).cell? ⟨hc, 0, none⟩ = some (.int .i64 (F : Int)) ∧ (wy.alloc (.cells #[.int .i64 (F : Int)] 3)).cell? ⟨hc, 1, none⟩ = some (.int .i64 (T : Int)) ∧ (wy.alloc (.cells #[.int .i64 (F : Int)] 3)).cell? ⟨gA, T, none⟩ = some (.slice pF mm cF) ∧ (wy.alloc (.cells #[.int .i64 (F : Int)] 3)).cell? ⟨gp, 1, none⟩ = some (.slice (some ⟨gA, 0, none⟩) n n) := ⟨cell_alloc hcz.1 _, cell_alloc hcz.2.1 _, cell_alloc hcz.2.2.1 _, cell_alloc hcz.2.2.2 _⟩
      have hnw := cells_new wy [.int .i64 (F : Int)] 3
      refine Tkc.onlyC (i := 17) (o := { dst := some 48, op := Op.call { callee := Callee.builtin Builtin.append, args := #[Operand.tmp 44, Operand.tmp 47], argTypes := #[47, 47] }, type := 47, pos := "list.go:155", after := #[{ on := 13, ground := Ground.data }, { on := 16, ground := Ground.data }], guard := none }) (by kernel_rfl) (by kernel_rfl) (fun _ => hcA) (by kernel_rfl) (fun K hK => ?_)
      obtain ⟨i1, hi9, hz0, hz1, hz2⟩ := info_parts info_int
      refine step_app (base := w5.heap.size) (.tmp 44) (.tmp 47) rfl (hrow.alloc _) (by simp [Act.eval]) ⟨by simp [Act.eval], rfl⟩ hnw hsl.out (by have := hsd.out; simp; omega) ?_
      intro g6 cap6 w6 hown6 hgr hloc
      refine hK _ _ ?_
      clear hK K hi9 hz0 hz1 hz2
      have hO6 : Hid (Oth w5.heap.size gA w5 w6) := fun k h1 h2 => by
        rw [hgr.block k (by have := hsd.out; simp; omega) (fun e => by have := (hrow.lt k e.symm).1; omega), Below.heap_alloc _ _ _ (by have := hsd.out; omega)]
        exact hOd.out k h1 h2
      have hs6 : Hid (w5.heap.size ≤ w6.heap.size) := by have := hgr.size; have := hsd.out; simp at *; show _ ≤ _; omega
      have hout6 : w6.ownsRow w.heap.size 47 1 (.slice (some ⟨gA, 0, none⟩) n n) n (vals v n) := (hNd.out.out.alloc _).kept hgr (Or.inr fun e => by have := (hrow.lt gA e.symm).1; have := hgA.out; omega)
      have x6 : w6.cell? ⟨gA, T, none⟩ = some (.slice pF mm cF) := by rw [hout6.cellAt T (by have := hTn.out; omega), vals_get hTn.out, hvH.out, hmmH.out]
      have f6 := owns_frz hout6 T
      have c6 : w6.cell? ⟨hc, 0, none⟩ = some (.int .i64 (F : Int)) ∧ w6.cell? ⟨hc, 1, none⟩ = some (.int .i64 (T : Int)) ∧ w6.cell? ⟨gA, T, none⟩ = some (.slice pF mm cF) ∧ w6.cell? ⟨gp, 1, none⟩ = some (.slice (some ⟨gA, 0, none⟩) n n) := ⟨hgr.cell hcA.1 (fun e => hrne.out _ e.symm rfl), hgr.cell hcA.2.1 (fun e => hrne.out _ e.symm rfl), x6, (World.cell?_of_block (w := w5) (hO6.out gp hgp.out.1 hgp.out.2)).trans hp5.out⟩
      simp only [Act.put, List.setIfInBounds_toArray, List.set_cons_succ, List.set_cons_zero]
      refine Tkc.onlyC (i := 18) (o := { dst := some 49, op := Op.indexAddr 43 (Operand.tmp 34) (Operand.tmp 36), type := 0, pos := "list.go:155", after := #[{ on := 3, ground := Ground.data }, { on := 5, ground := Ground.data }, { on := 0, ground := Ground.phase }, { on := 1, ground := Ground.phase }, { on := 2, ground := Ground.phase }, { on := 3, ground := Ground.phase }, { on := 4, ground := Ground.phase }, { on := 5, ground := Ground.phase }, { on := 6, ground := Ground.phase }, { on := 7, ground := Ground.phase }, { on := 8, ground := Ground.phase }, { on := 9, ground := Ground.phase }, { on := 10, ground := Ground.phase }, { on := 11, ground := Ground.phase }, { on := 12, ground := Ground.phase }, { on := 13, ground := Ground.phase }, { on := 14, ground := Ground.phase }, { on := 15, ground := Ground.phase }, { on := 16, ground := Ground.phase }, { on := 17, ground := Ground.phase }], guard := none }) (by kernel_rfl) (by kernel_rfl) (fun _ => c6) (by kernel_rfl) (fun K hK => ?_)
      go_simp
      refine hK _ _ ?_
      clear hK K
      refine Tkc.onlyC (i := 19) (o := { dst := none, op := Op.store 47 (Operand.tmp 49) (Operand.tmp 48), type := 0, pos := "list.go:155", after := #[{ on := 18, ground := Ground.data }, { on := 17, ground := Ground.data }, { on := 17, ground := Ground.chain }, { on := 0, ground := Ground.phase }, { on := 1, ground := Ground.phase }, { on := 2, ground := Ground.phase }, { on := 3, ground := Ground.phase }, { on := 4, ground := Ground.phase }, { on := 5, ground := Ground.phase }, { on := 6, ground := Ground.phase }, { on := 7, ground := Ground.phase }, { on := 8, ground := Ground.phase }, { on := 9, ground := Ground.phase }, { on := 10, ground := Ground.phase }, { on := 11, ground := Ground.phase }, { on := 12, ground := Ground.phase }, { on := 13, ground := Ground.phase }, { on := 14, ground := Ground.phase }, { on := 15, ground := Ground.phase }, { on := 16, ground := Ground.phase }, { on := 17, ground := Ground.phase }], guard := none }) (by kernel_rfl) (by kernel_rfl) (fun hz => by have hz' : true = false := hz; cases hz') (by kernel_rfl) (fun K hK => ?_)
      go_simp
      refine hK _ _ ?_
      clear hK K
      refine Tkc.doneC (by kernel_rfl) (fun hz => by have hz' : true = false := hz; cases hz') ?_
      clear hcz hcA c6 x6 f6 hnw
      go_wp2
      have hG := NxB.grow (w1 := w6) (v' := .slice (some ⟨g6, 0, none⟩) (mm + 1) cap6) (t := F) (hNd.out.alloc (.cells #[.int .i64 (F : Int)] 3)) hgA.out hTn.out (by rw [hvH.out, hmmH.out]; exact hgr) (by rw [hmmH.out]; simp only [ints, List.map_append, List.map_cons, List.map_nil]; exact hown6) (by rw [hvH.out, hmmH.out]; exact hloc)
      refine ⟨⟨j + 1, _, ?_, hj1.out, by rw [hstep.out]; exact hG, ?_, ?_, ?_⟩, ?_⟩
      · first | exact int_succ j | exact int_wsucc hj2.out
      · exact fun k h1 h2 => (Below.heap_setCell _ _ _ _ h2).trans (hO6.out k h1 h2)
      · simp; exact hs6.out
      · exact (below_app hBd.out hrow hgr hs5.out (Nat.le_of_lt hsd.out)).setCell hlo.out _
      · first | exact meas_1 hj1.out | exact meas_w hj1.out hj2.out
    · have hji : ¬ (j : Int) < (l.length : Int) := by omega
      have e : j = l.length := by omega
      subst e
      rw [List.take_length] at hN
      have hNH : Hid (NxB wr w.heap.size w5.heap.size gA n (suc (trn l)) v) := hN
      have hOH : Hid (Oth w5.heap.size gA w5 wr) := hO
      have hszH : Hid (w5.heap.size ≤ wr.heap.size) := hsz
      have hblH : Hid (Below w.heap.size w wr) := hbl
      have hgE : Hid (gE < w5.heap.size ∧ gE ≠ gA ∧ gE ≠ gp ∧ w.heap.size ≤ gE) := ⟨hMH.out.lt.2.2.1, Ne.symm hMH.out.ap.2.2.2.1, Ne.symm hMH.out.ap.1, hMH.out.lo.2.2.1⟩
      have c2 : wr.cell? ⟨gp, 2, none⟩ = some (.slice (some ⟨gE, 0, none⟩) n n) := (World.cell?_of_block (w := w5) (hO gp hgp.out.1 hgp.out.2)).trans ((cell_of_row _ _ 2 _ _ _ hMH.out.p).trans rfl)
      have hc2 : Hid (wr.cell? ⟨gp, 2, none⟩ = some (.slice (some ⟨gE, 0, none⟩) n n)) := c2
      have hE0 : Hid (wr.ownsRow w.heap.size 2 1 (.slice (some ⟨gE, 0, none⟩) n n) n (numf (fun i => if i < 0 then nvr else 0) n)) := by
        have e1 : numf (fun i => if i < 0 then nvr else 0) n = List.replicate n (.int .i64 0) := by rw [← numf_zero]; exact numf_congr fun j _ => by rw [if_neg (by omega)]
        show wr.ownsRow _ _ _ _ _ _
        rw [e1]
        exact owns_made ((hO gE hgE.out.1 hgE.out.2.1).trans hMH.out.E) hgE.out.2.2.2 (by have := hnH.out; omega)
      clear hN hO hsz hbl hj
      generalize wr = wq at *
      go_wp2
      clear c2
      go_loopw [56] (fun iv w2 => ∃ k : Nat, iv = .int .i64 k ∧ k ≤ n ∧ w2.ownsRow w.heap.size 2 1 (.slice (some ⟨gE, 0, none⟩) n n) n (numf (fun i => if i < k then nvr else 0) n) ∧ (∀ b, b < wq.heap.size → b ≠ gE → w2.heap[b]? = wq.heap[b]?) ∧ wq.heap.size ≤ w2.heap.size ∧ Below w.heap.size w w2)
        (fun iv _ => n - (intOf iv).toNat)
      case atStart => exact ⟨0, rfl, Nat.zero_le _, hE0.out, fun _ _ _ => rfl, Nat.le_refl _, hblH.out⟩
      case round =>
      obtain ⟨k, rfl, hkn, hE, hO2, hsz2, hb2⟩ := hrel
      have c2 : wr.cell? ⟨gp, 2, none⟩ = some (.slice (some ⟨gE, 0, none⟩) n n) := (World.cell?_of_block (w := wq) (hO2 gp (by have := hgp.out.1; have := hszH.out; omega) (Ne.symm hgE.out.2.2.1))).trans hc2.out
      by_cases hk : k < n
      · have hki : (k : Int) < (n : Int) := by omega
        have hk0 : ¬ (k : Int) < 0 := by omega
        have hkg : ¬ (n : Int) ≤ (k : Int) := by omega
        have hk1 : Hid (k < n) := hk
        have hk2 : Hid (k ≤ 100000) := by have := hnH.out; show _ ≤ _; omega
        have ck : wr.cell? ⟨gE, k, none⟩ = some (.int .i64 ((fun i => if i < k then nvr else 0) k)) := by rw [hE.cellAt k (by omega), numf_get hk]
        have fk := owns_frz hE k
        have hEH : Hid (wr.ownsRow w.heap.size 2 1 (.slice (some ⟨gE, 0, none⟩) n n) n (numf (fun i => if i < k then nvr else 0) n)) := hE
        have hO2H : Hid (∀ b, b < wq.heap.size → b ≠ gE → wr.heap[b]? = wq.heap[b]?) := hO2
        have hs2H : Hid (wq.heap.size ≤ wr.heap.size) := hsz2
        have hb2H : Hid (Below w.heap.size w wr) := hb2
        clear hE hO2 hsz2 hb2 hk
        generalize ((fun i => if i < k then nvr else 0) k : Int) = x0 at *
        go_wp2
        have h2 := owns_store (j := k) hEH.out (.int .i64 nvr)
        rw [numf_set] at h2
        have e1 : numf (fp (fun i => if i < k then nvr else 0) k nvr) n = numf (fun i => if i < k + 1 then nvr else 0) n := numf_congr fun j _ => by
          show (if j = k then nvr else if j < k then nvr else 0) = if j < k + 1 then nvr else 0
          by_cases e1 : j = k
          · rw [if_pos e1, if_pos (by omega)]
          · by_cases e2 : j < k
            · rw [if_neg e1, if_pos e2, if_pos (by omega)]
            · rw [if_neg e1, if_neg e2, if_neg (by omega)]
        rw [e1] at h2
        refine ⟨⟨k + 1, ?_, hk1.out, h2, fun b hb hne => (Below.heap_setCell _ _ _ _ hne).trans (hO2H.out b hb hne), by simp; exact hs2H.out, hb2H.out.setCell hgE.out.2.2.2 _⟩, ?_⟩
        · first | exact int_succ k | exact int_wsucc hk2.out
        · first | exact meas_1 hk1.out | exact meas_w hk1.out hk2.out
      · have hki : ¬ (k : Int) < (n : Int) := by omega
        have e : k = n := by omega
        subst e
        have hEn : Hid (wr.ownsRow w.heap.size 2 1 (.slice (some ⟨gE, 0, none⟩) k k) k (numf (fun _ => nvr) k)) := by
          have e1 : numf (fun _ => nvr) k = numf (fun i => if i < k then nvr else 0) k := numf_congr fun j hj => by rw [if_pos hj]
          show wr.ownsRow _ _ _ _ _ _
          rw [e1]
          exact hE
        have hW := hMH.out.wk hnH.out hmH.out hNH.out hOH.out hEn.out hO2 hszH.out hsz2 (hdb.out w (Below.refl _ _)) hdnH.out
        clear hE hO2 hsz2 c2
        go_wp2
        go_ret
        exact ⟨⟨gp, by rfl, gA, gE, gF, gT, w5.heap.size, hW⟩, hb2⟩
  clear hK'
  have hN0 : Nw w w.drew n m (fun _ => none) := ⟨(Below.refl _ _).drew, fun _ _ h => (by cases h), fun _ _ _ h => (by cases h)⟩
  refine Tkc.region_anyC (C := fun _ => True) (s := 99) (by kernel_rfl) ?_
  generalize w.drew = wd at *
  exact nw_tree (fun c a w d v h => by cases d <;> exact h) hnH hmH hN0 key.out
end Go.Proofs.YthfpdbogbmccjaaDoor
